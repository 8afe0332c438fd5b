/-
  What is known together: by keys (mathematics).
-/
import Derived.Test.YtmbddengmheeeaaLfs
import Derived.Test.YtmbddengmheeeaaBits
namespace Go.Proofs.Ytmbddengmheeeaa
open Go.RowKit
set_option linter.unusedVariables false
set_option linter.unusedSimpArgs false

theorem orI_nat {a b : Nat} (ha : a ≤ 65535) (hb : b ≤ 65535) : orI (a : Int) (b : Int) = ((a ||| b : Nat) : Int) := by
  unfold orI; exact i64_or_nat _ _ (by omega) (by omega)
theorem or_le {a b : Nat} (ha : a ≤ 65535) (hb : b ≤ 65535) : a ||| b ≤ 65535 := by
  have := Nat.or_lt_two_pow (n := 16) (show a < 2 ^ 16 by omega) (show b < 2 ^ 16 by omega)
  omega
def okD (d : Int) : Prop := 0 ≤ d ∧ d ≤ 65535
theorem okD_nat {d : Int} (h : okD d) : ∃ n : Nat, d = (n : Int) ∧ n ≤ 65535 := ⟨d.toNat, by have := h.1; omega, by have := h.1; have := h.2; omega⟩
theorem orI_ok {a b : Int} (ha : okD a) (hb : okD b) : okD (orI a b) := by
  obtain ⟨m, rfl, hm⟩ := okD_nat ha
  obtain ⟨n, rfl, hn⟩ := okD_nat hb
  rw [orI_nat hm hn]
  have := or_le hm hn
  exact ⟨by omega, by omega⟩
theorem orI_comm {a b : Int} (ha : okD a) (hb : okD b) : orI a b = orI b a := by
  obtain ⟨m, rfl, hm⟩ := okD_nat ha
  obtain ⟨n, rfl, hn⟩ := okD_nat hb
  rw [orI_nat hm hn, orI_nat hn hm, Nat.or_comm]
theorem orI_self {a : Int} (ha : okD a) : orI a a = a := by
  obtain ⟨m, rfl, hm⟩ := okD_nat ha
  rw [orI_nat hm hm, Nat.or_self]
theorem orI_assoc {a b c : Int} (ha : okD a) (hb : okD b) (hc : okD c) : orI (orI a b) c = orI a (orI b c) := by
  obtain ⟨m, rfl, hm⟩ := okD_nat ha
  obtain ⟨n, rfl, hn⟩ := okD_nat hb
  obtain ⟨p, rfl, hp⟩ := okD_nat hc
  rw [orI_nat hm hn, orI_nat hn hp, orI_nat (or_le hm hn) hp, orI_nat hm (or_le hn hp), Nat.or_assoc]
/-- what is known, as what it is held against by. -/
structure Ky where
  g : Int
  l : Int
  s : Int × Int × (Bool × List UInt8) × Int
  v : List (Int × Bool)
  d : Int
def keyN (k : Kn) : Ky := ⟨k.g, k.l, keyS k.sp, k.vs, k.dn⟩
theorem same_keyN (a b : Kn) : sameK a b = true ↔ keyN a = keyN b := by
  unfold sameK keyN
  rw [same_key]
  simp only [Bool.and_eq_true, decide_eq_true_eq, beq_iff_eq, Ky.mk.injEq]
def okY (x : Ky) : Prop := okKy x.s ∧ okD x.d
def jky (x y : Ky) : Ky := if x.g = y.g then ⟨x.g, max x.l y.l, mxO ltK x.s y.s, joinVo x.v y.v, orI x.d y.d⟩ else if x.g < y.g then y else x
theorem okK_key {k : Kn} (h : okK k = true) (hl : k.sp.ab.length = 16) : okY (keyN k) := by
  refine ⟨hl, ?_⟩
  unfold okK at h
  split at h
  · rw [same_keyN] at h
    have : (keyN k).d = 0 := by rw [h]; rfl
    show okD (keyN k).d
    rw [this]; exact ⟨by decide, by decide⟩
  · unfold okR at h
    simp only [Bool.and_eq_true, decide_eq_true_eq] at h
    exact ⟨h.2.2.2.2.2.2.1, h.2.2.2.2.2.2.2⟩
theorem key_joinK {a b : Kn} (ha : okK a = true) (hb : okK b = true) : keyN (joinK a b) = jky (keyN a) (keyN b) := by
  unfold joinK
  rw [if_pos ⟨ha, hb⟩]
  unfold jky
  by_cases h : a.g = b.g
  · rw [if_pos h, if_pos (show (keyN a).g = (keyN b).g from h)]
    unfold joinKn keyN
    simp only [key_join]
  · rw [if_neg h, if_neg (show ¬ (keyN a).g = (keyN b).g from h)]
    unfold newK
    by_cases h2 : a.g < b.g
    · rw [if_pos h2, if_pos (show (keyN a).g < (keyN b).g from h2)]
    · rw [if_neg h2, if_neg (show ¬ (keyN a).g < (keyN b).g from h2)]
theorem jky_self {x : Ky} (h : okY x) : jky x x = x := by
  unfold jky
  rw [if_pos rfl, mxO_self sto_key h.1, joinVo_self, orI_self h.2, show max x.l x.l = x.l by omega]
theorem jky_comm {x y : Ky} (hx : okY x) (hy : okY y) : jky x y = jky y x := by
  unfold jky
  by_cases h : x.g = y.g
  · rw [if_pos h, if_pos h.symm, mxO_comm sto_key hx.1 hy.1, joinVo_comm, orI_comm hx.2 hy.2, show max x.l y.l = max y.l x.l by omega, h]
  · have h' : ¬ y.g = x.g := fun e => h e.symm
    by_cases h2 : x.g < y.g
    · have h3 : ¬ y.g < x.g := by omega
      simp only [h, h', h2, h3, if_true, if_false]
    · have h3 : y.g < x.g := by omega
      simp only [h, h', h2, h3, if_true, if_false]
theorem jky_ok {x y : Ky} (hx : okY x) (hy : okY y) : okY (jky x y) := by
  unfold jky
  split
  · exact ⟨mxO_P hx.1 hy.1, orI_ok hx.2 hy.2⟩
  · split <;> assumption
theorem jky_g (x y : Ky) : (jky x y).g = max x.g y.g := by
  unfold jky
  split
  · show x.g = _; omega
  · split <;> omega
theorem jky_assoc {x y z : Ky} (hx : okY x) (hy : okY y) (hz : okY z) : jky (jky x y) z = jky x (jky y z) := by
  rcases Int.lt_trichotomy x.g y.g with h1 | h1 | h1 <;> rcases Int.lt_trichotomy y.g z.g with h2 | h2 | h2
  · rw [show jky x y = y by unfold jky; rw [if_neg (by omega), if_pos h1], show jky y z = z by unfold jky; rw [if_neg (by omega), if_pos h2], show jky x z = z by unfold jky; rw [if_neg (by omega), if_pos (by omega)]]
  · rw [show jky x y = y by unfold jky; rw [if_neg (by omega), if_pos h1]]
    have := jky_g y z
    generalize jky y z = q at this ⊢
    unfold jky
    rw [if_neg (by omega), if_pos (by omega)]
  · rw [show jky x y = y by unfold jky; rw [if_neg (by omega), if_pos h1], show jky y z = y by unfold jky; rw [if_neg (by omega), if_neg (by omega)], show jky x y = y by unfold jky; rw [if_neg (by omega), if_pos h1]]
  · rw [show jky y z = z by unfold jky; rw [if_neg (by omega), if_pos h2], show jky x z = z by unfold jky; rw [if_neg (by omega), if_pos (by omega)]]
    have := jky_g x y
    generalize jky x y = q at this ⊢
    unfold jky
    rw [if_neg (by omega), if_pos (by omega)]
  · have e1 : jky x y = ⟨x.g, max x.l y.l, mxO ltK x.s y.s, joinVo x.v y.v, orI x.d y.d⟩ := by unfold jky; rw [if_pos h1]
    have e2 : jky y z = ⟨y.g, max y.l z.l, mxO ltK y.s z.s, joinVo y.v z.v, orI y.d z.d⟩ := by unfold jky; rw [if_pos h2]
    rw [e1, e2]
    unfold jky
    simp only
    rw [if_pos (h1.trans h2), if_pos h1, mxO_assoc sto_key hx.1 hy.1 hz.1, joinVo_assoc, orI_assoc hx.2 hy.2 hz.2, show max (max x.l y.l) z.l = max x.l (max y.l z.l) by omega]
  · rw [show jky y z = y by unfold jky; rw [if_neg (by omega), if_neg (by omega)]]
    have := jky_g x y
    generalize jky x y = q at this ⊢
    unfold jky
    rw [if_neg (by omega), if_neg (by omega)]
  · rw [show jky x y = x by unfold jky; rw [if_neg (by omega), if_neg (by omega)], show jky y z = z by unfold jky; rw [if_neg (by omega), if_pos h2]]
  · rw [show jky x y = x by unfold jky; rw [if_neg (by omega), if_neg (by omega)]]
    have := jky_g y z
    generalize jky y z = q at this ⊢
    unfold jky
    rw [if_neg (by omega), if_neg (by omega), if_neg (by omega), if_neg (by omega)]
  · rw [show jky x y = x by unfold jky; rw [if_neg (by omega), if_neg (by omega)], show jky y z = y by unfold jky; rw [if_neg (by omega), if_neg (by omega)], show jky x z = x by unfold jky; rw [if_neg (by omega), if_neg (by omega)], show jky x y = x by unfold jky; rw [if_neg (by omega), if_neg (by omega)]]
theorem jky_top {x y : Ky} (hx : okY x) (hy : okY y) : jky x (jky x y) = jky x y := by
  rw [← jky_assoc hx hx hy, jky_self hx]
end Go.Proofs.Ytmbddengmheeeaa
