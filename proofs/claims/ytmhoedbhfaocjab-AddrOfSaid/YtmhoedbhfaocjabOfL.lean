/-
  The walk of the statement AddrOf: true; nothing that was there is written.
-/
import Derived.Test.YtmhoedbhfaocjabMaskL
import Derived.Test.YtmhoedbhfaocjabLess
namespace Go.Proofs.Ytmhoedbhfaocjab
open Go.RowKit
attribute [local go_sem ↓] exec_span exec_put exec_build heap_alloc_new heap_old
attribute [local go_sem] spanQ_ptr spanC_some heap_of_drew heap_of_drewN rs_arr rs_ad putAt_ptr putOk_ptr oldOk_some built_none World.setRow_alloc_new
set_option maxRecDepth 100000
set_option linter.unusedVariables false
set_option linter.unusedSimpArgs false

/-- bytes there and back. -/
theorem of_back {l : List UInt8} (h : ofE l = 0) : byE (ofV l) (ofB l) = 0 ∧ byB (ofV l) (ofB l) = l := by
  have h4 : l.length = 4 ∨ l.length = 16 := by
    unfold ofE at h
    split at h
    · assumption
    · cases h
  have hB : ofB l = padL l := by unfold ofB; rw [if_pos h4]
  have hlen := length_padL (l := l) (by omega)
  have hright : rightL (ofV l) (ofB l) = true := by
    rcases h4 with h4 | h4
    · rw [hB, show ofV l = false by unfold ofV; rw [h4]; rfl]
      refine rightL_four hlen (fun k hk hk4 => ?_)
      simp only [padL]
      rw [List.getElem_append_right (by omega)]
      simp
    · rw [show ofV l = true by unfold ofV; rw [h4]; rfl]; rfl
  refine ⟨by unfold byE; rw [hright]; rfl, ?_⟩
  unfold byB
  rw [hright, if_pos rfl, hB]
  rcases h4 with h4 | h4
  · rw [show ofV l = false by unfold ofV; rw [h4]; rfl, show sizeA false = l.length by rw [h4]; rfl, padL, List.take_left]
  · rw [show ofV l = true by unfold ofV; rw [h4]; rfl, show sizeA true = l.length by rw [h4]; rfl, padL, List.take_left]
/-- an address there and back. -/
theorem by_back {v : Bool} {l : List UInt8} (hl : l.length = 16) (h : byE v l = 0) : ofE (byB v l) = 0 ∧ ofV (byB v l) = v ∧ ofB (byB v l) = l := by
  have hr : rightL v l = true := by
    unfold byE at h
    split at h
    · assumption
    · cases h
  have hb : byB v l = l.take (sizeA v) := by unfold byB; rw [hr]; rfl
  have hlen : (byB v l).length = sizeA v := by rw [hb, List.length_take, hl]; cases v <;> rfl
  refine ⟨?_, ?_, ?_⟩
  · unfold ofE; rw [hlen]; cases v <;> rfl
  · unfold ofV; rw [hlen]; cases v <;> rfl
  · unfold ofB
    rw [hlen, if_pos (by cases v <;> simp [sizeA]), padL, hlen, hb]
    cases v
    · have h0 : maskL l 32 = l := by
        unfold rightL at hr
        rw [Bool.false_or, beq_iff_eq] at hr
        exact hr.symm
      have h1 := (right_four l hl).1 h0
      apply List.ext_getElem
      · simp [sizeA, hl]
      · intro k h1' h2
        rcases Nat.lt_or_ge k 4 with hk | hk
        · rw [List.getElem_append_left (by simp [sizeA]; omega)]; simp
        · rw [List.getElem_append_right (by simp [sizeA]; omega)]
          simp only [List.getElem_replicate]
          exact (h1 k h2 hk).symm
    · rw [show sizeA true = 16 from rfl, List.take_of_length_le (by omega)]; simp

set_option maxHeartbeats 4000000 in
theorem addrOf_any (w : World) (A : Option Addr) (c : Nat) (l : List UInt8) (X : Array Value) (v : Bool) (k : List UInt8) (hl : l.length ≤ c) (hc : l.length ≤ 140737488355320) (hby : Byt w w.heap.size A l) (hnil : A = none → c = 0) (h : AdV X v k) :
    Calls Try.prog 3 #[.slice A l.length c, .agg X] w fun e w' => e = .returned (.bool true) ∧ Below w.heap.size w w' := by
  obtain ⟨n, hn⟩ : ∃ n, n = l.length := ⟨_, rfl⟩
  have HN := hide hn
  go_enter Try.func3, Try.ntmps3
  rw [← hn]
  have hxs := h.size
  have hxr := h.x0
  obtain ⟨W, hW, h1, hz, hb⟩ := one_block w (.cells X 25)
  have hB := hide hb
  have hlt : Hid (W.heap.size = w.heap.size + 1) := hide hz
  have H1 := hide h1
  have C0 := hide (lent_any A c l w.heap.size W hl hc (hby.below hb) (by omega))
  rw [← hn] at C0
  have HBY := hide hby
  have HL := hide hl
  have HC := hide hc
  obtain ⟨E, hE⟩ : ∃ E, E = ofE l := ⟨_, rfl⟩
  obtain ⟨F, hF⟩ : ∃ F, F = byE v k := ⟨_, rfl⟩
  obtain ⟨R, hR⟩ : ∃ R, R = rightL v k := ⟨_, rfl⟩
  have HE := hide hE
  have HF := hide hF
  have HR := hide hR
  obtain ⟨q, hq⟩ : ∃ q, q = byB v k := ⟨_, rfl⟩
  have HQ := hide hq
  have hkn := hide (fun W => knownA_any W)
  clear hz hb h1 hn hby hl hc hE hF hR hq hnil
  go_wp2_with fail
  refine C0.out.mono ?_
  rintro e w1 ⟨rfl, hlent, hb1⟩
  have HLE := hide hlent
  have HB1 : Hid (Below w.heap.size w w1) := hide (hB.out.trans (hb1.mono (by have := hlt.out; omega)))
  have hx1 := row_kept hb1 (by have := hlt.out; omega) H1.out
  have LX1 : Hid (w.heap.size < w1.heap.size ∧ W.heap.size < w1.heap.size) := hide (by have := hlt.out; have h3 : W.heap.size < w1.heap.size := hlent.lt; omega)
  have C1 := hide (of_any w1 (some ⟨W.heap.size, 0, none⟩) (n + 8) l w1.heap.size (by have := HC.out; omega) (by exact hlent.byt LX1.out.2) (Nat.le_refl _))
  rw [← HE.out, ← HN.out] at C1
  clear hlent hb1 C0
  go_wp2_with fail
  refine C1.out.mono ?_
  rintro e w2 ⟨⟨P, rfl, hP⟩, hb2⟩
  have hPs := hP.size
  have hPo : allOne P = true := hP.one
  have hPr := hP.x0
  have HP := hide hP
  have HB2 : Hid (Below w1.heap.size w1 w2) := hide hb2
  have hx2 := row_kept hb2 LX1.out.1 hx1
  have C2 := hide (refof_any (w2.alloc (.cells P 25)) A c l w.heap.size (by have := HC.out; omega) (by exact ((HBY.out.below HB1.out).below (HB2.out.mono HB1.out.size)).below ((Below.refl _ w2).alloc (by have := HB1.out.size; have := HB2.out.size; omega) _)) (by have := HB1.out.size; have := HB2.out.size; simp; omega))
  rw [← HE.out, ← HN.out] at C2
  clear hP hb2 C1
  go_wp2_with fail
  refine C2.out.mono ?_
  rintro e w3 ⟨⟨P', rfl, hP'⟩, hb3⟩
  obtain rfl : P' = P := hP'.uniq HP.out
  have hba2 := (Below.refl w2.heap.size w2).alloc (Nat.le_refl _) (.cells P' 25)
  have L2 : Hid (w.heap.size < w2.heap.size ∧ W.heap.size < w2.heap.size ∧ w1.heap.size ≤ w2.heap.size) := hide (by have := LX1.out; have := HB2.out.size; omega)
  have hx3 := row_kept hb3 (by have := L2.out; simp; omega) ((hba2.block _ L2.out.1).trans hx2)
  have hp3 := row_kept hb3 (by simp) (heap_alloc_new w2 (.cells P' 25))
  have HB3 : Hid (Below w1.heap.size w1 w3) := hide ((HB2.out.alloc HB2.out.size _).trans (hb3.mono (by have := HB2.out.size; simp; omega)))
  have L3 : Hid (w.heap.size < w3.heap.size ∧ w2.heap.size < w3.heap.size ∧ w1.heap.size ≤ w3.heap.size) := hide (by have := L2.out; have := hb3.size; simp at this; omega)
  have LX : LtN w.heap.size w3.heap.size := L3.out.1
  have C3 := hide (fun W => bytes_any W X v k h)
  have C4 := hide (fun W => refbytes_any W X v k h)
  rw [← HF.out, ← HQ.out] at C3 C4
  clear hP' hb3 C2 hba2 hx2
  go_wp2_with fail
  refine (C3.out _).mono ?_
  rintro e w4 ⟨⟨A4, c4, rfl, hby4, hlc4, hn4⟩, hb4⟩
  have hx4 := row_kept hb4 (by have := L3.out; simp; omega) ((((Below.refl w3.heap.size w3).alloc (Nat.le_refl _) (.cells P' 25)).block _ L3.out.1).trans hx3)
  have hp4 := row_kept hb4 (by have := L3.out; simp; omega) ((((Below.refl w3.heap.size w3).alloc (Nat.le_refl _) (.cells P' 25)).block _ L3.out.2.1).trans hp3)
  have hr4 := row_kept hb4 (by simp) (heap_alloc_new w3 (.cells P' 25))
  have HB4 : Hid (Below w1.heap.size w1 w4) := hide ((HB3.out.alloc HB3.out.size _).trans (hb4.mono (by have := HB3.out.size; simp; omega)))
  have L4 : Hid (w.heap.size < w4.heap.size ∧ w2.heap.size < w4.heap.size ∧ w3.heap.size < w4.heap.size) := hide (by have := L3.out; have := hb4.size; simp at this; omega)
  have HY4 := hide hby4
  clear hb4 C3 hx3 hp3 LX hby4
  go_wp2_with fail
  refine (C4.out _).mono ?_
  rintro e w5 ⟨⟨A5, c5, rfl, hby5, hlc5, hn5⟩, hb5⟩
  have HSS : Hid ((w5.heap[w.heap.size]? = some (.cells X 25 (0, 0)) ∧ w5.heap[w2.heap.size]? = some (.cells P' 25 (0, 0)) ∧ w5.heap[w3.heap.size]? = some (.cells P' 25 (0, 0)))) := hide ⟨row_kept hb5 L4.out.1 hx4, row_kept hb5 L4.out.2.1 hp4, row_kept hb5 L4.out.2.2 hr4⟩
  have HB5 : Hid (Below w1.heap.size w1 w5) := hide (HB4.out.trans (hb5.mono HB4.out.size))
  have L5 : Hid (w.heap.size < w5.heap.size ∧ w2.heap.size < w5.heap.size ∧ w3.heap.size < w5.heap.size) := hide (by have := L4.out; have := hb5.size; omega)
  have HY45 : Hid (Byt w5 w5.heap.size A4 q) := hide ((HY4.out.below hb5).more hb5.size)
  have HY5 := hide hby5
  have CV4 : Hid (∀ W, Below w5.heap.size w5 W → (convert 22 9 (.slice A4 q.length c4)).run Try.prog W = .ok (.string ⟨q.toArray⟩) W) := hide (fun W hb => conv_any A4 c4 q _ W (HY45.out.below hb))
  have CV5 : Hid (∀ W, Below w5.heap.size w5 W → (convert 22 9 (.slice A5 q.length c5)).run Try.prog W = .ok (.string ⟨q.toArray⟩) W) := hide (fun W hb => conv_any A5 c5 q _ W (HY5.out.below hb))
  have HK := hide (fun W (hb : Below w5.heap.size w5 W) => kept_any A c W.heap.size l w.heap.size W)
  have CK : Hid (∀ W', Below w5.heap.size w5 W' → Calls Try.prog 18 #[.slice (some ⟨W.heap.size, 0, none⟩) n (n + 8), .slice A n c] W' fun e w' => e = .returned (.bool true) ∧ W' = w') := hide (fun W' hb => by
    have h5 : Below w1.heap.size w1 W' := HB5.out.trans (hb.mono HB5.out.size)
    have := kept_any A c W.heap.size l w.heap.size W' HL.out HC.out ((HBY.out.below HB1.out).below (h5.mono HB1.out.size)) (HLE.out.below h5 LX1.out.2)
    rw [← HN.out] at this
    exact this)
  have CR := hide (fun W => right_any W X v k h)
  have CRR := hide (fun W => refright_any W X v k h)
  rw [← HR.out] at CR CRR
  have hneP := fun W => neq_ad W P' P' _ _ _ _ HP.out HP.out
  simp only [beq_self_eq_true, Bool.and_self, Bool.not_true] at hneP
  clear hb5 C4 hx4 hp4 hr4 hby5 HK
  go_wp2
  go_region_held3 (fun w' => (w'.heap[w.heap.size]? = some (.cells X 25 (0, 0)) ∧ w'.heap[w2.heap.size]? = some (.cells P' 25 (0, 0)) ∧ w'.heap[w3.heap.size]? = some (.cells P' 25 (0, 0))) ∧ (convert 22 9 (.slice A4 q.length c4)).run Try.prog w' = .ok (.string ⟨q.toArray⟩) w' ∧ (convert 22 9 (.slice A5 q.length c5)).run Try.prog w' = .ok (.string ⟨q.toArray⟩) w')
    (first | exact ⟨HSS.out, CV4.out _ (Below.refl _ w5).drew, CV5.out _ (Below.refl _ w5).drew⟩ | assumption)
    (first
      | (go_at_call 18; (with_reducible refine (CK.out _ (Below.refl _ w5).drew).mono ?_); rintro e w6 ⟨rfl, rfl⟩)
      | (go_at_call 19; (with_reducible refine (CR.out _).mono ?_); rintro e w7 ⟨rfl, hb7⟩; have HB7 : Hid (Below w5.heap.size w5 w7) := hide (below_undrew' hb7); have HR7 := And.intro (rows3 HB7.out L5.out HSS.out) (And.intro (CV4.out _ HB7.out) (CV5.out _ HB7.out)))
      | (go_at_call 20; (with_reducible refine (CRR.out _).mono ?_); rintro e w8 ⟨rfl, hb8⟩; have HB8 : Hid (Below w5.heap.size w5 w8) := hide (HB7.out.trans (hb8.mono HB7.out.size)); have HR8 := And.intro (rows3 HB8.out L5.out HSS.out) (And.intro (CV4.out _ HB8.out) (CV5.out _ HB8.out))))
  obtain ⟨⟨hx8, hp8, hr8⟩, hcv4, hcv5⟩ := HR8
  have HBp8 : Hid (Below w5.heap.size w5 w8) := hide HB8.out
  clear hcv4 hcv5 hb7 hb8 HR7 hneP CR CRR CK
  by_cases he0 : ofE l = 0
  · obtain rfl : E = 0 := by rw [HE.out]; exact he0
    obtain ⟨e1, e2⟩ := of_back he0
    have C9 := hide (bytes_any w8 P' (ofV l) (ofB l) HP.out)
    rw [e1, e2, ← HN.out] at C9
    have HCA : Hid (∀ W, Below w8.heap.size w8 W → (convert 22 9 (.slice A n c)).run Try.prog W = .ok (.string ⟨l.toArray⟩) W) := hide (fun W hb => by
      have h5 : Below w1.heap.size w1 W := (HB5.out.trans (HBp8.out.mono HB5.out.size)).trans (hb.mono (by have := HB5.out.size; have := HBp8.out.size; omega))
      have := conv_any A c l _ W ((HBY.out.below HB1.out).below (h5.mono HB1.out.size))
      rw [← HN.out] at this
      exact this)
    clear e1 e2 he0
    go_wp2_with fail
    refine C9.out.mono ?_
    rintro e w9 ⟨⟨A9, c9, rfl, hby9, _, _⟩, hb9⟩
    have hx9 := row_kept hb9 (by have := L5.out; have := HBp8.out.size; omega) hx8
    have HBp9 : Hid (Below w5.heap.size w5 w9) := hide (HBp8.out.trans (hb9.mono HBp8.out.size))
    have hca := HCA.out w9 hb9
    have hc9 : (convert 22 9 (.slice A9 n c9)).run Try.prog w9 = .ok (.string ⟨l.toArray⟩) w9 := by
      have := conv_any A9 c9 l _ w9 hby9
      rw [← HN.out] at this
      exact this
    clear hb9 hby9 C9 hx8 hp8 hr8
    by_cases hf0 : byE v k = 0
    · obtain rfl : F = 0 := by rw [HF.out]; exact hf0
      obtain ⟨e1, e2, e3⟩ := by_back h.len hf0
      rw [← HQ.out] at e1 e2 e3
      have C9 := hide (of_any w9 A5 c5 q w9.heap.size (by rw [HQ.out]; unfold byB; split <;> simp; have := h.len; omega) ((HY5.out.below HBp9.out).more HBp9.out.size) (Nat.le_refl _))
      rw [e1, e2, e3] at C9
      clear e1 e2 e3 hf0
      go_wp2_with fail
      refine C9.out.mono ?_
      rintro e wz ⟨⟨Z, rfl, hZ⟩, hbz⟩
      obtain rfl : X = Z := h.uniq hZ
      have hxz := row_kept hbz (by have := L5.out; have := HBp9.out.size; omega) hx9
      have LZ : LtN w.heap.size wz.heap.size := by have := L5.out; have := HBp9.out.size; have := hbz.size; show _ < _; omega
      have hXo : allOne X = true := h.one
      have heqX := fun W => eql_ad W X X _ _ _ _ h h
      simp only [beq_self_eq_true, Bool.and_self] at heqX
      have HBz : Hid (Below w.heap.size w (wz.alloc (.cells X 25))) := hide (((HB1.out.trans (HB5.out.mono HB1.out.size)).trans ((HBp9.out.trans (hbz.mono HBp9.out.size)).mono (by have := L5.out; omega))).alloc (by have := L5.out; have := HBp9.out.size; have := hbz.size; omega) _)
      clear hZ hbz C9 hx9
      go_wp2_with fail
      refine (hkn.out _).mono ?_
      rintro e wk ⟨rfl, hbk⟩
      dsimp only
      go_wp2
      go_ret
      exact ⟨rfl, HBz.out.trans (hbk.mono HBz.out.size)⟩
    · obtain rfl : F = 1 := by rw [HF.out]; unfold byE at hf0 ⊢; split at hf0 <;> simp_all
      clear hf0
      go_wp2_with fail
      refine (hkn.out _).mono ?_
      rintro e wk ⟨rfl, hbk⟩
      have HBz : Hid (Below w.heap.size w w9) := hide ((HB1.out.trans (HB5.out.mono HB1.out.size)).trans (HBp9.out.mono (by have := L5.out; omega)))
      dsimp only
      go_wp2
      go_ret
      exact ⟨rfl, HBz.out.trans (hbk.mono HBz.out.size)⟩
  · have hE3 : E = 3 := by rw [HE.out]; unfold ofE at he0 ⊢; split at he0 <;> simp_all
    subst hE3
    clear he0 hp8 hr8
    by_cases hf0 : byE v k = 0
    · obtain rfl : F = 0 := by rw [HF.out]; exact hf0
      obtain ⟨e1, e2, e3⟩ := by_back h.len hf0
      rw [← HQ.out] at e1 e2 e3
      have C9 := hide (of_any w8 A5 c5 q w8.heap.size (by rw [HQ.out]; unfold byB; split <;> simp; have := h.len; omega) ((HY5.out.below HBp8.out).more HBp8.out.size) (Nat.le_refl _))
      rw [e1, e2, e3] at C9
      clear e1 e2 e3 hf0
      go_wp2_with fail
      refine C9.out.mono ?_
      rintro e wz ⟨⟨Z, rfl, hZ⟩, hbz⟩
      obtain rfl : X = Z := h.uniq hZ
      have hxz := row_kept hbz (by have := L5.out; have := HBp8.out.size; omega) hx8
      have LZ : LtN w.heap.size wz.heap.size := by have := L5.out; have := HBp8.out.size; have := hbz.size; show _ < _; omega
      have hXo : allOne X = true := h.one
      have heqX := fun W => eql_ad W X X _ _ _ _ h h
      simp only [beq_self_eq_true, Bool.and_self] at heqX
      have HBz : Hid (Below w.heap.size w (wz.alloc (.cells X 25))) := hide (((HB1.out.trans (HB5.out.mono HB1.out.size)).trans ((HBp8.out.trans (hbz.mono HBp8.out.size)).mono (by have := L5.out; omega))).alloc (by have := L5.out; have := HBp8.out.size; have := hbz.size; omega) _)
      clear hZ hbz C9 hx8
      go_wp2_with fail
      refine (hkn.out _).mono ?_
      rintro e wk ⟨rfl, hbk⟩
      dsimp only
      go_wp2
      go_ret
      exact ⟨rfl, HBz.out.trans (hbk.mono HBz.out.size)⟩
    · obtain rfl : F = 1 := by rw [HF.out]; unfold byE at hf0 ⊢; split at hf0 <;> simp_all
      clear hf0
      go_wp2_with fail
      refine (hkn.out _).mono ?_
      rintro e wk ⟨rfl, hbk⟩
      have HBz : Hid (Below w.heap.size w w8) := hide ((HB1.out.trans (HB5.out.mono HB1.out.size)).trans (HBp8.out.mono (by have := L5.out; omega)))
      dsimp only
      go_wp2
      go_ret
      exact ⟨rfl, HBz.out.trans (hbk.mono HBz.out.size)⟩
end Go.Proofs.Ytmhoedbhfaocjab
