/-
  What is known together can be; all that LifeGrows asks of it (mathematics).
-/
import Derived.Test.YtmbddengmheeeaaLft
namespace Go.Proofs.Ytmbddengmheeeaa
open Go.RowKit
set_option linter.unusedVariables false
set_option linter.unusedSimpArgs false

/-- it can be, and its address has sixteen bytes. -/
def okL (k : Kn) : Prop := okK k = true ∧ k.sp.ab.length = 16
theorem okL.key {k : Kn} (h : okL k) : okY (keyN k) := okK_key h.1 h.2
theorem joinE_ok {a b : Kn} (ha : okL a) (hb : okL b) : joinE a b = 0 := by unfold joinE; rw [if_pos ⟨ha.1, hb.1⟩]
theorem okK_zero {k : Kn} (h : okK k = true) (hg : k.g = 0) : keyN k = keyN zKn := by
  unfold okK at h
  rw [if_pos hg, same_keyN] at h
  exact h
theorem joinSp_len {s t : Spc} (hs : s.ab.length = 16) (ht : t.ab.length = 16) : (joinSp s t).ab.length = 16 := by unfold joinSp; split <;> assumption
theorem joinK_ok {a b : Kn} (ha : okL a) (hb : okL b) : okL (joinK a b) := by
  have hk := key_joinK ha.1 hb.1
  constructor
  · unfold joinK at hk ⊢
    rw [if_pos ⟨ha.1, hb.1⟩] at hk ⊢
    by_cases hg : a.g = b.g
    · rw [if_pos hg] at hk ⊢
      by_cases h0 : a.g = 0
      · unfold okK
        rw [if_pos (show (joinKn a b).g = 0 from h0), same_keyN, hk, okK_zero ha.1 h0, okK_zero hb.1 (hg ▸ h0)]
        refine jky_self ⟨by show (List.replicate 16 (0 : UInt8)).length = 16; simp, by decide, by decide⟩
      · have h1 := ha.1
        have h2 := hb.1
        unfold okK at h1 h2 ⊢
        rw [if_neg h0] at h1
        rw [if_neg (by rw [← hg]; exact h0)] at h2
        rw [if_neg (show ¬ (joinKn a b).g = 0 from h0)]
        have d1 := ha.key.2
        have d2 := hb.key.2
        have dd := orI_ok d1 d2
        unfold okR at h1 h2 ⊢
        simp only [Bool.and_eq_true, decide_eq_true_eq] at h1 h2 ⊢
        obtain ⟨a1, a2, a3, a4, a5, a6, a7, a8⟩ := h1
        obtain ⟨b1, b2, b3, b4, b5, b6, b7, b8⟩ := h2
        refine ⟨a1, a2, ?_, ?_, ?_, votesOk_join a6 b6, dd.1, dd.2⟩
        · show max a.l b.l ≥ 1; omega
        · show max a.l b.l ≤ 3; omega
        · show okSp (joinSp a.sp b.sp) = true
          unfold joinSp; split <;> assumption
    · rw [if_neg hg]
      unfold newK
      split
      · exact hb.1
      · exact ha.1
  · unfold joinK
    rw [if_pos ⟨ha.1, hb.1⟩]
    split
    · exact joinSp_len ha.2 hb.2
    · unfold newK
      split
      · exact hb.2
      · exact ha.2
theorem grows_comm {a b : Kn} (ha : okL a) (hb : okL b) : sameK (joinK a b) (joinK b a) = true := by
  rw [same_keyN, key_joinK ha.1 hb.1, key_joinK hb.1 ha.1, jky_comm ha.key hb.key]
theorem grows_assoc {a b c : Kn} (ha : okL a) (hb : okL b) (hc : okL c) : sameK (joinK (joinK a b) c) (joinK a (joinK b c)) = true := by
  rw [same_keyN, key_joinK (joinK_ok ha hb).1 hc.1, key_joinK ha.1 hb.1, key_joinK ha.1 (joinK_ok hb hc).1, key_joinK hb.1 hc.1, jky_assoc ha.key hb.key hc.key]
theorem grows_self {a : Kn} (ha : okL a) : sameK (joinK a a) a = true := by
  rw [same_keyN, key_joinK ha.1 ha.1, jky_self ha.key]
theorem grows_within {a b : Kn} (ha : okL a) (hb : okL b) : withinK a (joinK a b) = true := by
  unfold withinK
  rw [joinE_ok ha (joinK_ok ha hb)]
  simp only [beq_self_eq_true, Bool.true_and]
  rw [same_keyN, key_joinK ha.1 (joinK_ok ha hb).1, key_joinK ha.1 hb.1, jky_top ha.key hb.key]
theorem grows_within' {a b : Kn} (ha : okL a) (hb : okL b) : withinK b (joinK a b) = true := by
  unfold withinK
  rw [joinE_ok hb (joinK_ok ha hb)]
  simp only [beq_self_eq_true, Bool.true_and]
  rw [same_keyN, key_joinK hb.1 (joinK_ok ha hb).1, key_joinK ha.1 hb.1, jky_comm ha.key hb.key, jky_top hb.key ha.key]
theorem grows_g {a b : Kn} (ha : okL a) (hb : okL b) : a.g ≤ (joinK a b).g := by
  have h := congrArg Ky.g (key_joinK ha.1 hb.1)
  rw [jky_g] at h
  have e1 : (keyN (joinK a b)).g = (joinK a b).g := rfl
  have e2 : (keyN a).g = a.g := rfl
  rw [e1, e2] at h
  omega
theorem and_or_nat (m n : Nat) : (m ||| n) &&& m = m := by
  apply Nat.eq_of_testBit_eq
  intro i
  rw [Nat.testBit_and, Nat.testBit_or]
  cases m.testBit i <;> simp
/-- of one Gen, life and replicas without flows never fall. -/
theorem grows_same {a b : Kn} (ha : okL a) (hb : okL b) (h : (joinK a b).g = a.g) : a.l ≤ (joinK a b).l ∧ bits BinOp.and IntKind.i64 (joinK a b).dn a.dn = a.dn := by
  have hk := key_joinK ha.1 hb.1
  have hself : bits BinOp.and IntKind.i64 a.dn a.dn = a.dn := by
    obtain ⟨m, hm, hm2⟩ := okD_nat ha.key.2
    have hm : a.dn = (m : Int) := hm
    rw [hm, i64_and_nat _ _ (by omega) (by omega), Nat.and_self]
  by_cases hg : a.g = b.g
  · unfold joinK
    rw [if_pos ⟨ha.1, hb.1⟩, if_pos hg]
    refine ⟨by show a.l ≤ max a.l b.l; omega, ?_⟩
    obtain ⟨m, hm, hm2⟩ := okD_nat ha.key.2
    obtain ⟨n, hn, hn2⟩ := okD_nat hb.key.2
    have hm : a.dn = (m : Int) := hm
    have hn : b.dn = (n : Int) := hn
    show bits BinOp.and IntKind.i64 (orI a.dn b.dn) a.dn = a.dn
    rw [hm, hn, orI_nat hm2 hn2]
    have := or_le hm2 hn2
    rw [i64_and_nat _ _ (by omega) (by omega), and_or_nat]
  · have e : joinK a b = newK a b := by unfold joinK; rw [if_pos ⟨ha.1, hb.1⟩, if_neg hg]
    rw [e] at h ⊢
    unfold newK at h ⊢
    by_cases h2 : a.g < b.g
    · rw [if_pos h2] at h; omega
    · rw [if_neg h2]; exact ⟨Int.le_refl _, hself⟩
end Go.Proofs.Ytmbddengmheeeaa
