/-
  Plain mathematics of floats of 64 bits: what the rungs are worth, how what is exact is rounded, in which order words stand. Nothing here speaks of a program.
-/
import Derived.Laws.FloatBits
namespace Go.Proofs.Ytmbddengmheeeaa

/-- what a rung is worth, in units of the least one. -/
def fV (B r : Nat) : Nat := if r < B then r else (B + r % B) * 2 ^ (r / B - 1)

theorem fV_low {B r : Nat} (h : r < B) : fV B r = r := by unfold fV; rw [if_pos h]

theorem fV_at {B q k : Nat} (hB : 0 < B) (h1 : B ≤ k) (h2 : k ≤ 2 * B) : fV B (q * B + k) = k * 2 ^ q := by
  have hn : ¬ q * B + k < B := by omega
  unfold fV
  rw [if_neg hn]
  by_cases h : k < 2 * B
  · obtain ⟨j, rfl⟩ : ∃ j, k = B + j := ⟨k - B, by omega⟩
    have hj : j < B := by omega
    have e1 : (q * B + (B + j)) / B = q + 1 := by
      rw [show q * B + (B + j) = j + (q + 1) * B by rw [Nat.add_mul]; omega, Nat.add_mul_div_right _ _ hB, Nat.div_eq_of_lt hj]; omega
    have e2 : (q * B + (B + j)) % B = j := by
      rw [show q * B + (B + j) = j + (q + 1) * B by rw [Nat.add_mul]; omega, Nat.add_mul_mod_self_right, Nat.mod_eq_of_lt hj]
    rw [e1, e2]; rfl
  · obtain rfl : k = 2 * B := by omega
    have e1 : (q * B + 2 * B) / B = q + 2 := by
      rw [← Nat.add_mul, Nat.mul_div_cancel _ hB]
    have e2 : (q * B + 2 * B) % B = 0 := by
      rw [← Nat.add_mul, Nat.mul_mod_left]
    rw [e1, e2, show q + 2 - 1 = q + 1 by omega, Nat.pow_succ, Nat.add_zero, Nat.mul_comm (2 ^ q) 2, ← Nat.mul_assoc, Nat.mul_comm B 2]

theorem f_split {B r : Nat} (hB : 0 < B) (h : B ≤ r) : ∃ q k, r = q * B + k ∧ B ≤ k ∧ k < 2 * B := by
  refine ⟨r / B - 1, B + r % B, ?_, by omega, by have := Nat.mod_lt r hB; omega⟩
  have h1 : 1 ≤ r / B := (Nat.one_le_div_iff hB).2 h
  obtain ⟨c, hc⟩ : ∃ c, r / B = c + 1 := ⟨r / B - 1, by omega⟩
  have h3 := Nat.div_add_mod r B
  rw [hc] at h3 ⊢
  rw [Nat.add_sub_cancel]
  rw [Nat.mul_add, Nat.mul_comm B c] at h3
  omega

theorem fV_lt_succ {B : Nat} (hB : 0 < B) (r : Nat) : fV B r < fV B (r + 1) := by
  by_cases h : r < B
  · by_cases h2 : r + 1 < B
    · rw [fV_low h, fV_low h2]; omega
    · have e : r + 1 = 0 * B + B := by omega
      rw [fV_low h, e, fV_at hB (Nat.le_refl _) (by omega)]
      omega
  · obtain ⟨q, k, rfl, h1, h2⟩ := f_split hB (by omega : B ≤ r)
    rw [fV_at hB h1 (by omega), Nat.add_assoc, fV_at hB (by omega) (by omega)]
    exact (Nat.mul_lt_mul_right (Nat.two_pow_pos q)).2 (by omega)

theorem fV_lt {B a b : Nat} (hB : 0 < B) (h : a < b) : fV B a < fV B b := by
  obtain ⟨n, rfl⟩ : ∃ n, b = a + 1 + n := ⟨b - a - 1, by omega⟩
  clear h
  induction n with
  | zero => exact fV_lt_succ hB a
  | succ n ih => exact Nat.lt_trans ih (fV_lt_succ hB _)

theorem fV_le {B a b : Nat} (hB : 0 < B) (h : a ≤ b) : fV B a ≤ fV B b := by
  rcases Nat.lt_or_eq_of_le h with h | rfl
  · exact Nat.le_of_lt (fV_lt hB h)
  · exact Nat.le_refl _

theorem fV_le_iff {B a b : Nat} (hB : 0 < B) : fV B a ≤ fV B b ↔ a ≤ b :=
  ⟨fun h => Nat.le_of_not_lt fun c => by have := fV_lt hB c; omega, fV_le hB⟩
theorem fV_lt_iff {B a b : Nat} (hB : 0 < B) : fV B a < fV B b ↔ a < b :=
  ⟨fun h => Nat.lt_of_not_le fun c => by have := fV_le hB c; omega, fV_lt hB⟩
theorem fV_zero {B : Nat} (hB : 0 < B) : fV B 0 = 0 := fV_low hB

/-- R is what N / D (in units of the least rung) is rounded to, were there no greatest rung. -/
def RU (B R N D : Nat) : Prop :=
  (2 * N ≤ (fV B R + fV B (R + 1)) * D ∧ (2 * N = (fV B R + fV B (R + 1)) * D → R % 2 = 0)) ∧
  (∀ r, R = r + 1 → (fV B r + fV B (r + 1)) * D ≤ 2 * N ∧ ((fV B r + fV B (r + 1)) * D = 2 * N → R % 2 = 0))

theorem RU.mono {B R N D R' N' D' : Nat} (hB : 0 < B) (hD : 0 < D) (hD' : 0 < D') (h : RU B R N D) (h' : RU B R' N' D') (hle : N * D' ≤ N' * D) : R ≤ R' := by
  refine Nat.le_of_not_lt fun hlt => ?_
  obtain ⟨r, rfl⟩ : ∃ r, R = r + 1 := ⟨R - 1, by omega⟩
  obtain ⟨l1, l2⟩ := h.2 r rfl
  obtain ⟨u1, u2⟩ := h'.1
  have hs : fV B R' + fV B (R' + 1) ≤ fV B r + fV B (r + 1) := Nat.add_le_add (fV_le hB (by omega)) (fV_le hB (by omega))
  have hs2 : fV B R' + fV B (R' + 1) = fV B r + fV B (r + 1) → R' = r := fun e => by
    have a := (fV_le_iff (a := R') (b := r) hB)
    by_cases c : R' < r
    · have c1 := fV_lt hB c
      have c2 := fV_le hB (show R' + 1 ≤ r + 1 by omega)
      omega
    · omega
  generalize hS : fV B r + fV B (r + 1) = S at l1 l2 hs hs2
  generalize hT : fV B R' + fV B (R' + 1) = T at u1 u2 hs hs2
  have a1 : S * D * D' ≤ 2 * N * D' := Nat.mul_le_mul_right _ l1
  have a2 : 2 * N * D' ≤ 2 * N' * D := by rw [Nat.mul_assoc, Nat.mul_assoc]; exact Nat.mul_le_mul_left _ hle
  have a3 : 2 * N' * D ≤ T * D' * D := Nat.mul_le_mul_right _ u1
  have a4 : T * D' * D ≤ S * D' * D := Nat.mul_le_mul_right _ (Nat.mul_le_mul_right _ hs)
  have a5 : S * D' * D = S * D * D' := by rw [Nat.mul_assoc, Nat.mul_comm D' D, ← Nat.mul_assoc]
  have b1 : S * D = 2 * N := Nat.eq_of_mul_eq_mul_right hD' (by omega)
  have b2 : 2 * N' = T * D' := Nat.eq_of_mul_eq_mul_right hD (by omega)
  have b3 : T = S := Nat.eq_of_mul_eq_mul_right (Nat.mul_pos hD' hD) (by rw [← Nat.mul_assoc, ← Nat.mul_assoc]; omega)
  have c1 := l2 b1
  have c2 := u2 b2
  have c3 := hs2 b3
  omega

theorem RU.exact {B : Nat} (hB : 0 < B) (r D : Nat) (hD : 0 < D) : RU B r (fV B r * D) D := by
  refine ⟨?_, ?_⟩
  · have h := fV_lt_succ hB r
    have h2 : 2 * (fV B r * D) < (fV B r + fV B (r + 1)) * D := by
      rw [← Nat.mul_assoc]; exact (Nat.mul_lt_mul_right hD).2 (by omega)
    exact ⟨by omega, fun e => by omega⟩
  · rintro q rfl
    have h := fV_lt_succ hB q
    have h2 : (fV B q + fV B (q + 1)) * D < 2 * (fV B (q + 1) * D) := by
      rw [← Nat.mul_assoc]; exact (Nat.mul_lt_mul_right hD).2 (by omega)
    exact ⟨by omega, fun e => by omega⟩

theorem RU.ratio {B R N D N' D' : Nat} (hD : 0 < D) (hD' : 0 < D') (h : RU B R N D) (e : N * D' = N' * D) : RU B R N' D' := by
  have up : ∀ S, 2 * N ≤ S * D → 2 * N' ≤ S * D' := fun S hs => by
    refine Nat.le_of_mul_le_mul_right ?_ hD
    calc 2 * N' * D = 2 * N * D' := by rw [Nat.mul_assoc, ← e, ← Nat.mul_assoc]
      _ ≤ S * D * D' := Nat.mul_le_mul_right _ hs
      _ = S * D' * D := by rw [Nat.mul_assoc, Nat.mul_comm D D', ← Nat.mul_assoc]
  have lo : ∀ S, S * D ≤ 2 * N → S * D' ≤ 2 * N' := fun S hs => by
    refine Nat.le_of_mul_le_mul_right ?_ hD
    calc S * D' * D = S * D * D' := by rw [Nat.mul_assoc, Nat.mul_comm D' D, ← Nat.mul_assoc]
      _ ≤ 2 * N * D' := Nat.mul_le_mul_right _ hs
      _ = 2 * N' * D := by rw [Nat.mul_assoc, e, ← Nat.mul_assoc]
  have eq : ∀ S, 2 * N' = S * D' → 2 * N = S * D := fun S hs => by
    refine Nat.eq_of_mul_eq_mul_right hD' ?_
    calc 2 * N * D' = 2 * N' * D := by rw [Nat.mul_assoc, e, ← Nat.mul_assoc]
      _ = S * D' * D := by rw [hs]
      _ = S * D * D' := by rw [Nat.mul_assoc, Nat.mul_comm D' D, ← Nat.mul_assoc]
  exact ⟨⟨up _ h.1.1, fun q => h.1.2 (eq _ q)⟩, fun r hr => ⟨lo _ (h.2 r hr).1, fun q => (h.2 r hr).2 (eq _ q.symm).symm⟩⟩

/-- of what is kept of the digits, at a place q above the least one. -/
theorem RU.of_kept {B q k N D : Nat} (hB : 0 < B) (he : B % 2 = 0) (hD : 0 < D) (hk : k ≤ 2 * B) (hq : q = 0 ∨ (B ≤ k ∧ B * (2 ^ q * D) ≤ N))
    (hu : 2 * N ≤ (2 * k + 1) * (2 ^ q * D)) (hue : 2 * N = (2 * k + 1) * (2 ^ q * D) → k % 2 = 0)
    (hl : ∀ j, k = j + 1 → (2 * j + 1) * (2 ^ q * D) ≤ 2 * N) (hle : ∀ j, k = j + 1 → (2 * j + 1) * (2 ^ q * D) = 2 * N → k % 2 = 0) : RU B (q * B + k) N D := by
  have hV : ∀ j, j ≤ 2 * B → (q = 0 ∨ B ≤ j) → fV B (q * B + j) = j * 2 ^ q := fun j hj hc => by
    by_cases h : B ≤ j
    · exact fV_at hB h hj
    · rcases hc with rfl | h'
      · rw [Nat.zero_mul, Nat.zero_add, fV_low (by omega), Nat.pow_zero, Nat.mul_one]
      · exact absurd h' h
  have hpar : (q * B + k) % 2 = k % 2 := by
    rw [Nat.add_mod, Nat.mul_mod, he]; simp
  have hVk := hV k hk (hq.imp id (·.1))
  have hpos : 0 < 2 ^ q * D := Nat.mul_pos (Nat.two_pow_pos q) hD
  refine ⟨?_, ?_⟩
  · have hn : (k + 1) * 2 ^ q ≤ fV B (q * B + k + 1) ∧ (k < 2 * B → fV B (q * B + k + 1) = (k + 1) * 2 ^ q) ∧ (k = 2 * B → (k + 1) * 2 ^ q < fV B (q * B + k + 1)) := by
      by_cases hc : k < 2 * B
      · have := hV (k + 1) (by omega) (hq.imp id (fun h => by omega))
        rw [Nat.add_assoc, this]
        exact ⟨Nat.le_refl _, fun _ => rfl, fun h => by omega⟩
      · obtain rfl : k = 2 * B := by omega
        have h1 : fV B ((q + 1) * B + (B + 1)) = (B + 1) * 2 ^ (q + 1) := fV_at hB (by omega) (by omega)
        have h2 : q * B + 2 * B + 1 = (q + 1) * B + (B + 1) := by rw [Nat.add_mul]; omega
        rw [h2, h1, Nat.pow_succ]
        have h3 : (2 * B + 1) * 2 ^ q < (2 * B + 2) * 2 ^ q := (Nat.mul_lt_mul_right (Nat.two_pow_pos q)).2 (by omega)
        have h4 : (B + 1) * (2 ^ q * 2) = (2 * B + 2) * 2 ^ q := by
          rw [Nat.mul_comm (2 ^ q) 2, ← Nat.mul_assoc]; congr 1; omega
        exact ⟨by omega, fun h => by omega, fun _ => by omega⟩
    obtain ⟨n1, n2, n3⟩ := hn
    rw [hVk]
    have e1 : (2 * k + 1) * (2 ^ q * D) = (k * 2 ^ q + (k + 1) * 2 ^ q) * D := by
      rw [← Nat.add_mul, Nat.mul_assoc]; congr 1; omega
    have e2 : (k * 2 ^ q + (k + 1) * 2 ^ q) * D ≤ (k * 2 ^ q + fV B (q * B + k + 1)) * D := Nat.mul_le_mul_right _ (by omega)
    refine ⟨by omega, fun e => ?_⟩
    rw [hpar]
    refine hue ?_
    by_cases hc : k < 2 * B
    · rw [n2 hc] at e; omega
    · have h5 := n3 (by omega)
      have h6 : (k * 2 ^ q + (k + 1) * 2 ^ q) * D < (k * 2 ^ q + fV B (q * B + k + 1)) * D := (Nat.mul_lt_mul_right hD).2 (by omega)
      omega
  · intro r hr
    by_cases hc : ∃ j, k = j + 1 ∧ (q = 0 ∨ B ≤ j)
    · obtain ⟨j, rfl, hj⟩ := hc
      obtain rfl : r = q * B + j := by omega
      have hVr := hV j (by omega) hj
      rw [hVr, show q * B + j + 1 = q * B + (j + 1) by omega, hVk]
      have e1 : (2 * j + 1) * (2 ^ q * D) = (j * 2 ^ q + (j + 1) * 2 ^ q) * D := by
        rw [← Nat.add_mul, Nat.mul_assoc]; congr 1; omega
      rw [← e1, hpar]
      exact ⟨hl j rfl, hle j rfl⟩
    · have hq1 : q ≠ 0 := fun h => hc ⟨k - 1, by subst h; omega, Or.inl h⟩
      obtain ⟨h1, h2⟩ := hq.resolve_left hq1
      have hkB : k = B := by
        refine Nat.le_antisymm (Nat.le_of_not_lt fun h => hc ⟨k - 1, by omega, Or.inr (by omega)⟩) h1
      have h3 : fV B r < fV B (r + 1) := fV_lt_succ hB r
      rw [← hr, hVk] at h3 ⊢
      have h4 : (fV B r + k * 2 ^ q) * D < (2 * (k * 2 ^ q)) * D := (Nat.mul_lt_mul_right hD).2 (by omega)
      have h5 : 2 * (k * 2 ^ q) * D = 2 * (B * (2 ^ q * D)) := by rw [hkB]; simp only [Nat.mul_assoc]
      exact ⟨by omega, fun e => by omega⟩

/-- what Ieee's cut gives: the nearest whole number, between two the even one. -/
theorem cut_spec (neg : Bool) (n d : Nat) :
    (2 * n ≤ (2 * Ieee.Toward.even.cut neg n d + 1) * 2 ^ d ∧ (2 * n = (2 * Ieee.Toward.even.cut neg n d + 1) * 2 ^ d → Ieee.Toward.even.cut neg n d % 2 = 0)) ∧
    (∀ j, Ieee.Toward.even.cut neg n d = j + 1 → (2 * j + 1) * 2 ^ d ≤ 2 * n ∧ ((2 * j + 1) * 2 ^ d = 2 * n → Ieee.Toward.even.cut neg n d % 2 = 0)) := by
  by_cases hd : d ≤ n.log2 + 2
  · have hg : 1 <<< min d (n.log2 + 2) = 2 ^ d := by rw [Nat.min_eq_left hd, Nat.one_shiftLeft]
    have hc : Ieee.Toward.even.cut neg n d = n / 2 ^ d + (decide (2 ^ d < 2 * (n % 2 ^ d)) || (2 ^ d == 2 * (n % 2 ^ d) && n / 2 ^ d % 2 == 1)).toNat := by
      unfold Ieee.Toward.cut
      simp only [hg]
    have hdm := Nat.div_add_mod n (2 ^ d)
    have hlt := Nat.mod_lt n (Nat.two_pow_pos d)
    generalize n / 2 ^ d = low at hc hdm
    generalize n % 2 ^ d = rest at hc hdm hlt
    generalize hG : 2 ^ d = G at hc hdm hlt
    rw [hc]
    have hx : ∀ x, (2 * x + 1) * G = 2 * (G * x) + G := fun x => by rw [Nat.add_mul, Nat.one_mul, Nat.mul_assoc, Nat.mul_comm x G]
    by_cases c1 : G < 2 * rest
    · simp only [c1, decide_true, Bool.true_or, Bool.toNat_true]
      rw [hx, Nat.mul_add]
      refine ⟨⟨by omega, fun e => by omega⟩, fun j hj => ?_⟩
      obtain rfl : low = j := by omega
      rw [hx]
      exact ⟨by omega, fun e => by omega⟩
    · by_cases c2 : G = 2 * rest
      · by_cases c3 : low % 2 = 1
        · have e0 : (decide (G < 2 * rest) || (G == 2 * rest && low % 2 == 1)).toNat = 1 := by simp [c2, c3]
          rw [e0, hx, Nat.mul_add]
          refine ⟨⟨by omega, fun e => by omega⟩, fun j hj => ?_⟩
          obtain rfl : low = j := by omega
          rw [hx]
          exact ⟨by omega, fun e => by omega⟩
        · have e0 : (decide (G < 2 * rest) || (G == 2 * rest && low % 2 == 1)).toNat = 0 := by simp [c2, c3]
          rw [e0, hx, Nat.add_zero]
          refine ⟨⟨by omega, fun e => by omega⟩, fun j hj => ?_⟩
          subst hj
          rw [hx]
          rw [Nat.mul_add] at hdm
          exact ⟨by omega, fun e => by omega⟩
      · have e0 : (decide (G < 2 * rest) || (G == 2 * rest && low % 2 == 1)).toNat = 0 := by simp [c1, c2]
        rw [e0, hx, Nat.add_zero]
        refine ⟨⟨by omega, fun e => by omega⟩, fun j hj => ?_⟩
        subst hj
        rw [hx]
        rw [Nat.mul_add] at hdm
        exact ⟨by omega, fun e => by omega⟩
  · have hlog : n < 2 ^ (n.log2 + 1) := Nat.lt_log2_self
    have hpow : 2 ^ (n.log2 + 2) = 2 * 2 ^ (n.log2 + 1) := by rw [Nat.pow_succ, Nat.mul_comm]
    have hg : 1 <<< min d (n.log2 + 2) = 2 ^ (n.log2 + 2) := by rw [Nat.min_eq_right (by omega), Nat.one_shiftLeft]
    have hc : Ieee.Toward.even.cut neg n d = 0 := by
      unfold Ieee.Toward.cut
      simp only [hg]
      have h1 : n / 2 ^ (n.log2 + 2) = 0 := Nat.div_eq_of_lt (by omega)
      have h2 : n % 2 ^ (n.log2 + 2) = n := Nat.mod_eq_of_lt (by omega)
      rw [h1, h2]
      have h3 : ¬ 2 ^ (n.log2 + 2) < 2 * n := by omega
      simp [h3]
    have hle : 2 ^ (n.log2 + 2) ≤ 2 ^ d := Nat.pow_le_pow_right (by omega) (by omega)
    rw [hc]
    refine ⟨⟨by omega, fun _ => rfl⟩, fun j hj => by omega⟩


theorem lt_of_cut {B n d c : Nat} (h : B * 2 ^ d ≤ n) (hu : 2 * n ≤ (2 * c + 1) * 2 ^ d) : B ≤ c := by
  refine Nat.le_of_not_lt fun hc => ?_
  have h1 : (2 * c + 1) * 2 ^ d < 2 * B * 2 ^ d := (Nat.mul_lt_mul_right (Nat.two_pow_pos d)).2 (by omega)
  rw [Nat.mul_assoc] at h1
  omega
theorem le_of_cut {B n d c : Nat} (h : n < B * 2 ^ d) (hl : ∀ j, c = j + 1 → (2 * j + 1) * 2 ^ d ≤ 2 * n) : c ≤ B := by
  refine Nat.le_of_not_lt fun hc => ?_
  have h2 := hl (c - 1) (by omega)
  have h1 : 2 * B * 2 ^ d ≤ (2 * (c - 1) + 1) * 2 ^ d := Nat.mul_le_mul_right _ (by omega)
  rw [Nat.mul_assoc] at h1
  omega

/-- where the last digit stands that is kept of mag at place. -/
def lastOf (f : Ieee.Format) (mag : Nat) (place : Int) : Int := max (place + mag.log2 - f.fractionBits) f.leastPlace
def keptOf (f : Ieee.Format) (neg : Bool) (mag : Nat) (place : Int) : Nat := Ieee.Toward.even.cut neg (mag <<< (place - lastOf f mag place).toNat) (lastOf f mag place - place).toNat

theorem nearest_eq (f : Ieee.Format) (neg : Bool) {mag : Nat} (place : Int) (h : mag ≠ 0) : f.nearest neg mag place = f.word neg (min ((lastOf f mag place - f.leastPlace).toNat * f.binade + keptOf f neg mag place) f.infRung) := by
  unfold Ieee.Format.nearest keptOf lastOf
  simp only [if_neg h]

/-- the digits that are kept: what stands ahead of the cut is n at d digits. -/
theorem kept_facts (neg : Bool) {mag : Nat} (place : Int) (h : mag ≠ 0) :
    ∃ n d g0 : Nat, n = mag * 2 ^ g0 ∧ (d = 0 ∨ g0 = 0) ∧ (place - lastOf Ieee.double mag place = (g0 : Int) - d) ∧ keptOf Ieee.double neg mag place = Ieee.Toward.even.cut neg n d ∧
      n < 2 * 2 ^ 52 * 2 ^ d ∧ (-1074 < lastOf Ieee.double mag place → 2 ^ 52 * 2 ^ d ≤ n) ∧ -1074 ≤ lastOf Ieee.double mag place ∧ place + mag.log2 - 52 ≤ lastOf Ieee.double mag place := by
  have hlp : Ieee.double.leastPlace = -1074 := by decide
  have hfb : Ieee.double.fractionBits = 52 := rfl
  have hL : lastOf Ieee.double mag place = max (place + mag.log2 - 52) (-1074) := by unfold lastOf; rw [hlp, hfb]; rfl
  have hlog1 : 2 ^ mag.log2 ≤ mag := Nat.log2_self_le h
  have hlog2 : mag < 2 ^ (mag.log2 + 1) := Nat.lt_log2_self
  have hK : keptOf Ieee.double neg mag place = Ieee.Toward.even.cut neg (mag * 2 ^ (place - lastOf Ieee.double mag place).toNat) (lastOf Ieee.double mag place - place).toNat := by
    unfold keptOf; rw [Nat.shiftLeft_eq]
  generalize lastOf Ieee.double mag place = last at hL hK ⊢
  refine ⟨_, _, _, rfl, by omega, by omega, hK, ?_, ?_, by omega, by omega⟩
  · have e : mag.log2 + 1 + (place - last).toNat ≤ 53 + (last - place).toNat := by omega
    calc mag * 2 ^ (place - last).toNat < 2 ^ (mag.log2 + 1) * 2 ^ (place - last).toNat := (Nat.mul_lt_mul_right (Nat.two_pow_pos _)).2 hlog2
      _ = 2 ^ (mag.log2 + 1 + (place - last).toNat) := (Nat.pow_add ..).symm
      _ ≤ 2 ^ (53 + (last - place).toNat) := Nat.pow_le_pow_right (by omega) e
      _ = 2 * 2 ^ 52 * 2 ^ (last - place).toNat := by rw [Nat.pow_add]
  · intro hlt
    have e : 52 + (last - place).toNat ≤ mag.log2 + (place - last).toNat := by omega
    calc 2 ^ 52 * 2 ^ (last - place).toNat = 2 ^ (52 + (last - place).toNat) := (Nat.pow_add ..).symm
      _ ≤ 2 ^ (mag.log2 + (place - last).toNat) := Nat.pow_le_pow_right (by omega) e
      _ = 2 ^ mag.log2 * 2 ^ (place - last).toNat := Nat.pow_add ..
      _ ≤ mag * 2 ^ (place - last).toNat := Nat.mul_le_mul_right _ hlog1

/-- the rung that a sum, a quotient are rounded to is the one of RU, or infinity's. -/
def RS (R N D : Nat) : Prop := ∃ R0, R = min R0 (2047 * 2 ^ 52) ∧ RU (2 ^ 52) R0 N D

theorem RS.mono {R N D R' N' D' : Nat} (hD : 0 < D) (hD' : 0 < D') (h : RS R N D) (h' : RS R' N' D') (hle : N * D' ≤ N' * D) : R ≤ R' := by
  obtain ⟨a, rfl, ha⟩ := h
  obtain ⟨b, rfl, hb⟩ := h'
  have := RU.mono (Nat.two_pow_pos 52) hD hD' ha hb hle
  omega
theorem RS.exact {r : Nat} (hr : r ≤ 2047 * 2 ^ 52) {D : Nat} (hD : 0 < D) : RS r (fV (2 ^ 52) r * D) D := ⟨r, by omega, RU.exact (Nat.two_pow_pos 52) r D hD⟩
theorem RS.exact1 {r : Nat} (hr : r ≤ 2047 * 2 ^ 52) : RS r (fV (2 ^ 52) r) 1 := by have := RS.exact hr (D := 1) (by omega); rwa [Nat.mul_one] at this
theorem RS.ratio {R N D N' D' : Nat} (hD : 0 < D) (hD' : 0 < D') (h : RS R N D) (e : N * D' = N' * D) : RS R N' D' := by
  obtain ⟨a, rfl, ha⟩ := h
  exact ⟨a, rfl, ha.ratio hD hD' e⟩

/-- what is nearest to mag at place (e digits more than the least rung has are enough). -/
theorem nearest_RS (neg : Bool) (mag : Nat) (place : Int) (e : Nat) (he : -1074 ≤ place + e) :
    ∃ R, Ieee.double.nearest neg mag place = Ieee.double.word neg R ∧ R ≤ 2047 * 2 ^ 52 ∧ RS R (mag * 2 ^ (place + 1074 + e).toNat) (2 ^ e) := by
  by_cases h : mag = 0
  · subst h
    refine ⟨0, rfl, by omega, 0, by omega, ?_⟩
    rw [Nat.zero_mul]
    have := RU.exact (Nat.two_pow_pos 52) 0 (2 ^ e) (Nat.two_pow_pos e)
    rwa [fV_zero (Nat.two_pow_pos 52), Nat.zero_mul] at this
  · obtain ⟨n, d, g0, hn, hor, hpl, hk, h1, h2, h3, h4⟩ := kept_facts neg place h
    rw [nearest_eq _ _ _ h, hk]
    have hlp : Ieee.double.leastPlace = -1074 := by decide
    rw [hlp, show Ieee.double.binade = 2 ^ 52 from rfl, show Ieee.double.infRung = 2047 * 2 ^ 52 from rfl]
    generalize lastOf Ieee.double mag place = last at hpl h2 h3 h4 ⊢
    obtain ⟨⟨u1, u2⟩, lo⟩ := cut_spec neg n d
    generalize Ieee.Toward.even.cut neg n d = c at u1 u2 lo ⊢
    refine ⟨_, rfl, Nat.min_le_right _ _, _, rfl, ?_⟩
    obtain ⟨q, hq⟩ : ∃ q : Nat, last = -1074 + q := ⟨(last + 1074).toNat, by omega⟩
    have hq' : (last - -1074).toNat = q := by omega
    rw [hq']
    obtain ⟨g, hg⟩ : ∃ g : Nat, q + e = d + g := ⟨q + e - d, by omega⟩
    have hgp : 2 ^ q * 2 ^ e = 2 ^ d * 2 ^ g := by rw [← Nat.pow_add, hg, Nat.pow_add]
    have hN : mag * 2 ^ (place + 1074 + e).toNat = n * 2 ^ g := by
      rw [hn, Nat.mul_assoc, ← Nat.pow_add]; congr 2; omega
    rw [hN]
    have sc : ∀ x, x * (2 ^ q * 2 ^ e) = x * 2 ^ d * 2 ^ g := fun x => by rw [hgp, Nat.mul_assoc]
    have s2 : 2 * (n * 2 ^ g) = 2 * n * 2 ^ g := (Nat.mul_assoc ..).symm
    have gp := Nat.two_pow_pos g
    refine RU.of_kept (Nat.two_pow_pos 52) (by decide) (Nat.two_pow_pos e) (le_of_cut h1 fun j hj => (lo j hj).1) ?_ ?_ ?_ ?_ ?_
    · by_cases hq0 : q = 0
      · exact Or.inl hq0
      · have := h2 (by omega)
        exact Or.inr ⟨lt_of_cut this u1, by rw [sc]; exact Nat.mul_le_mul_right _ this⟩
    · rw [sc, s2]; exact Nat.mul_le_mul_right _ u1
    · rw [sc, s2]; intro hh; exact u2 (Nat.eq_of_mul_eq_mul_right gp hh)
    · intro j hj; rw [sc, s2]; exact Nat.mul_le_mul_right _ (lo j hj).1
    · intro j hj; rw [sc, s2]; intro hh; exact (lo j hj).2 (Nat.eq_of_mul_eq_mul_right gp hh)

/-- a quotient's digits with one more that tells whether anything is left over are rounded as the quotient itself. -/
theorem nearest_quo (neg : Bool) (X n : Nat) (hn : 0 < n) (place : Int) (e : Nat) (he : -1074 ≤ place + e) (hbig : 2 ^ 53 ≤ X / n) :
    ∃ R, Ieee.double.nearest neg (2 * (X / n) + (X % n != 0).toNat) place = Ieee.double.word neg R ∧ R ≤ 2047 * 2 ^ 52 ∧ RS R (2 * X * 2 ^ (place + 1074 + e).toNat) (n * 2 ^ e) := by
  have hdm := Nat.div_add_mod X n
  have hlt := Nat.mod_lt X hn
  generalize hQ : X / n = Q at hdm hbig ⊢
  generalize X % n = r at hdm hlt ⊢
  have hs : (r = 0 ∧ (r != 0).toNat = 0) ∨ (0 < r ∧ (r != 0).toNat = 1) := by
    by_cases c : r = 0
    · exact Or.inl ⟨c, by simp [c]⟩
    · exact Or.inr ⟨by omega, by simp [c]⟩
  generalize (r != 0).toNat = s at hs ⊢
  obtain ⟨T, hT⟩ : ∃ T, T = 2 * Q + s := ⟨_, rfl⟩
  rw [← hT]
  have hT0 : T ≠ 0 := by omega
  obtain ⟨n', d, g0, hn', hor, hpl, hk, h1, h2, h3, h4⟩ := kept_facts neg place hT0
  have hlogT : 54 ≤ T.log2 := (Nat.le_log2 hT0).2 (by omega)
  rw [nearest_eq _ _ _ hT0, hk]
  have hlp : Ieee.double.leastPlace = -1074 := by decide
  rw [hlp, show Ieee.double.binade = 2 ^ 52 from rfl, show Ieee.double.infRung = 2047 * 2 ^ 52 from rfl]
  generalize lastOf Ieee.double T place = last at hpl h2 h3 h4 ⊢
  obtain ⟨d', rfl⟩ : ∃ d', d = d' + 2 := ⟨d - 2, by omega⟩
  obtain rfl : g0 = 0 := by omega
  rw [Nat.pow_zero, Nat.mul_one] at hn'
  subst hn'
  obtain ⟨⟨u1, u2⟩, lo⟩ := cut_spec neg n' (d' + 2)
  generalize Ieee.Toward.even.cut neg n' (d' + 2) = c at u1 u2 lo ⊢
  refine ⟨_, rfl, Nat.min_le_right _ _, _, rfl, ?_⟩
  obtain ⟨q, hq⟩ : ∃ q : Nat, last = -1074 + q := ⟨(last + 1074).toNat, by omega⟩
  have hq' : (last - -1074).toNat = q := by omega
  rw [hq']
  obtain ⟨g, hg⟩ : ∃ g : Nat, q + e = d' + 2 + g := ⟨q + e - (d' + 2), by omega⟩
  have hgp : 2 ^ q * 2 ^ e = 2 ^ (d' + 2) * 2 ^ g := by rw [← Nat.pow_add, hg, Nat.pow_add]
  have hge : (place + 1074 + e).toNat = g := by omega
  rw [hge]
  have sc : ∀ x, x * (2 ^ q * (n * 2 ^ e)) = x * 2 ^ (d' + 2) * n * 2 ^ g := fun x => by
    rw [Nat.mul_left_comm (2 ^ q), hgp, Nat.mul_assoc, Nat.mul_assoc, Nat.mul_left_comm n]
  have s2 : 2 * (2 * X * 2 ^ g) = 2 * (2 * X) * 2 ^ g := (Nat.mul_assoc ..).symm
  have gp := Nat.two_pow_pos g
  have p2 : ∀ x, x * 2 ^ (d' + 2) = 4 * (x * 2 ^ d') := fun x => by rw [Nat.pow_succ, Nat.pow_succ, ← Nat.mul_assoc, ← Nat.mul_assoc]; omega
  have hX : X = Q * n + r := by rw [Nat.mul_comm]; omega
  -- what holds of T holds of the quotient itself
  have up : ∀ y, 2 * n' ≤ 4 * y → 2 * (2 * X) ≤ 4 * y * n ∧ (2 * (2 * X) = 4 * y * n → 2 * n' = 4 * y) := fun y hy => by
    rcases hs with ⟨hr, hs⟩ | ⟨hr, hs⟩
    · have hQy : Q ≤ y := by omega
      have := Nat.mul_le_mul_right n hQy
      refine ⟨by rw [Nat.mul_assoc]; omega, fun e => ?_⟩
      rw [Nat.mul_assoc] at e
      have : Q = y := Nat.eq_of_mul_eq_mul_right hn (by omega)
      omega
    · have hQy : Q + 1 ≤ y := by omega
      have := Nat.mul_le_mul_right n hQy
      rw [Nat.add_mul] at this
      refine ⟨by rw [Nat.mul_assoc]; omega, fun e => ?_⟩
      rw [Nat.mul_assoc] at e
      omega
  have dn : ∀ y, 4 * y ≤ 2 * n' → 4 * y * n ≤ 2 * (2 * X) ∧ (4 * y * n = 2 * (2 * X) → 4 * y = 2 * n') := fun y hy => by
    have hQy : y ≤ Q := by omega
    have := Nat.mul_le_mul_right n hQy
    refine ⟨by rw [Nat.mul_assoc]; omega, fun e => ?_⟩
    rw [Nat.mul_assoc] at e
    have h0 : r = 0 := by omega
    have : y = Q := Nat.eq_of_mul_eq_mul_right hn (by omega)
    omega
  refine RU.of_kept (Nat.two_pow_pos 52) (by decide) (Nat.mul_pos hn (Nat.two_pow_pos e)) (le_of_cut h1 fun j hj => (lo j hj).1) ?_ ?_ ?_ ?_ ?_
  · by_cases hq0 : q = 0
    · exact Or.inl hq0
    · have := h2 (by omega)
      refine Or.inr ⟨lt_of_cut this u1, ?_⟩
      rw [sc]
      refine Nat.mul_le_mul_right _ ?_
      rw [p2] at this ⊢
      have h5 := (dn (2 * (2 ^ 52 * 2 ^ d')) (by omega)).1
      rw [Nat.mul_assoc] at h5 ⊢
      rw [Nat.mul_assoc] at h5
      omega
  · rw [sc, s2]; rw [p2] at u1 ⊢; exact Nat.mul_le_mul_right _ (up _ u1).1
  · rw [sc, s2]; intro hh; rw [p2] at u1 u2 hh; exact u2 ((up _ u1).2 (Nat.eq_of_mul_eq_mul_right gp hh))
  · intro j hj; rw [sc, s2]; have := (lo j hj).1; rw [p2] at this ⊢; exact Nat.mul_le_mul_right _ (dn _ this).1
  · intro j hj; rw [sc, s2]; intro hh; have h6 := lo j hj; rw [p2] at h6 hh; exact h6.2 ((dn _ h6.1).2 (Nat.eq_of_mul_eq_mul_right gp hh))


/-- the sign of a word, and its rung. -/
def fS (b : Nat) : Bool := b / 2 ^ 63 % 2 == 1
def fR (b : Nat) : Nat := b % 2 ^ 63
/-- infinity's rung. -/
def fI : Nat := 2047 * 2 ^ 52

theorem fR_lt (b : Nat) : fR b < 2 ^ 63 := Nat.mod_lt _ (Nat.two_pow_pos 63)
theorem fR_of {b : Nat} (h : b < 2 ^ 63) : fR b = b := Nat.mod_eq_of_lt h
theorem fS_of {b : Nat} (h : b < 2 ^ 63) : fS b = false := by unfold fS; rw [Nat.div_eq_of_lt h]; rfl

theorem read_num {b : Nat} (h : fR b < fI) : ∃ m e : Nat, Ieee.double.read b = .number (fS b) m (-1074 + (e : Int)) ∧ fV (2 ^ 52) (fR b) = m * 2 ^ e ∧ m < 2 ^ 53 := by
  have hlp : Ieee.double.leastPlace = -1074 := by decide
  unfold Ieee.Format.read
  rw [hlp, show Ieee.double.binade = 2 ^ 52 from rfl, show Ieee.double.infRung = fI from rfl, show Ieee.double.signWeight = 2 ^ 63 from rfl]
  change ∃ m e : Nat, (if fR b < 2 ^ 52 then Ieee.Datum.number (fS b) (fR b) (-1074)
    else if fR b < fI then Ieee.Datum.number (fS b) (2 ^ 52 + fR b % 2 ^ 52) (-1074 + ((fR b / 2 ^ 52 - 1 : Nat) : Int)) else if fR b = fI then .infinity (fS b) else .nan (fS b) (fR b - fI)) = .number (fS b) m (-1074 + (e : Int)) ∧ _ ∧ _
  by_cases c : fR b < 2 ^ 52
  · refine ⟨fR b, 0, by rw [if_pos c]; rfl, by rw [fV_low c, Nat.pow_zero, Nat.mul_one], by omega⟩
  · refine ⟨2 ^ 52 + fR b % 2 ^ 52, fR b / 2 ^ 52 - 1, by rw [if_neg c, if_pos h], by unfold fV; rw [if_neg c], ?_⟩
    have := Nat.mod_lt (fR b) (Nat.two_pow_pos 52)
    omega
theorem read_inf {b : Nat} (h : fR b = fI) : Ieee.double.read b = .infinity (fS b) := by
  unfold Ieee.Format.read
  rw [show Ieee.double.binade = 2 ^ 52 from rfl, show Ieee.double.infRung = fI from rfl, show Ieee.double.signWeight = 2 ^ 63 from rfl]
  change (if fR b < 2 ^ 52 then _ else if fR b < fI then _ else if fR b = fI then Ieee.Datum.infinity (fS b) else _) = _
  rw [if_neg (by rw [h]; decide), if_neg (by omega), if_pos h]
theorem read_nan {b : Nat} (h : fI < fR b) : ∃ f, Ieee.double.read b = .nan (fS b) f := by
  unfold Ieee.Format.read
  rw [show Ieee.double.binade = 2 ^ 52 from rfl, show Ieee.double.infRung = fI from rfl, show Ieee.double.signWeight = 2 ^ 63 from rfl]
  refine ⟨fR b - fI, ?_⟩
  change (if fR b < 2 ^ 52 then _ else if fR b < fI then _ else if fR b = fI then _ else Ieee.Datum.nan (fS b) (fR b - fI)) = _
  rw [if_neg (by have : (2:Nat) ^ 52 ≤ fI := by decide
                 omega), if_neg (by omega), if_neg (by omega)]

/-- a word's place among those that are no NaN. -/
def fK (b : Nat) : Int := if fS b then -(fR b : Int) else (fR b : Int)

theorem icmp_lt {a b : Int} (h : a < b) : compare a b = .lt := by simp [compare, compareOfLessAndEq, h]
theorem icmp_gt {a b : Int} (h : b < a) : compare a b = .gt := by
  have h1 : ¬ a < b := by omega
  have h2 : ¬ a = b := by omega
  simp [compare, compareOfLessAndEq, h1, h2]
theorem icmp_eq {a b : Int} (h : a = b) : compare a b = .eq := by subst h; simp [compare, compareOfLessAndEq]
theorem cmp_mul (a b : Int) {c : Int} (hc : 0 < c) : compare (a * c) (b * c) = compare a b := by
  simp only [compare, compareOfLessAndEq]
  have h1 : a * c < b * c ↔ a < b := Int.mul_lt_mul_right hc
  have h2 : a * c = b * c ↔ a = b := ⟨fun h => Int.eq_of_mul_eq_mul_right (by omega) h, fun h => by rw [h]⟩
  simp only [h1, h2]

def sgnd (s : Bool) (n : Nat) : Int := if s then -(n : Int) else (n : Int)
theorem sgnd_mul (s : Bool) (m c : Nat) : sgnd s m * (c : Int) = sgnd s (m * c) := by
  cases s
  · simp [sgnd]
  · simp [sgnd, Int.neg_mul]
theorem cmp_sgnd (s t : Bool) (a b : Nat) : compare (sgnd s (fV (2 ^ 52) a)) (sgnd t (fV (2 ^ 52) b)) = compare (sgnd s a) (sgnd t b) := by
  have hp := Nat.two_pow_pos 52
  have h1 := fV_lt_iff (a := a) (b := b) hp
  have h2 := fV_lt_iff (a := b) (b := a) hp
  have z1 := fV_le (B := 2 ^ 52) (a := 0) (b := a) hp (by omega)
  have z2 := fV_lt_iff (B := 2 ^ 52) (a := 0) (b := a) hp
  have z3 := fV_lt_iff (B := 2 ^ 52) (a := 0) (b := b) hp
  rw [fV_zero hp] at z1 z2 z3
  generalize fV (2 ^ 52) a = A at *
  generalize fV (2 ^ 52) b = C at *
  simp only [compare, compareOfLessAndEq]
  have e1 : sgnd s A < sgnd t C ↔ sgnd s a < sgnd t b := by cases s <;> cases t <;> simp only [sgnd] <;> simp <;> omega
  have e2 : sgnd s A = sgnd t C ↔ sgnd s a = sgnd t b := by cases s <;> cases t <;> simp only [sgnd] <;> simp <;> omega
  simp only [e1, e2]

theorem signed_eq (s : Bool) (m k : Nat) : Ieee.signed s m k = sgnd s (m * 2 ^ k) := by unfold Ieee.signed sgnd; rw [Nat.shiftLeft_eq]

theorem order_key {a b : Nat} (ha : fR a ≤ fI) (hb : fR b ≤ fI) : Ieee.double.order a b = some (compare (fK a) (fK b)) := by
  unfold Ieee.Format.order
  have ka : fK a = sgnd (fS a) (fR a) := rfl
  have kb : fK b = sgnd (fS b) (fR b) := rfl
  rw [ka, kb]
  have hI : 0 < fI := by decide
  rcases Nat.lt_or_eq_of_le ha with ha | ha <;> rcases Nat.lt_or_eq_of_le hb with hb | hb
  · obtain ⟨m, e, h1, h2, _⟩ := read_num ha
    obtain ⟨n, f, g1, g2, _⟩ := read_num hb
    rw [h1, g1, ← cmp_sgnd, h2, g2]
    simp only [Ieee.Datum.order, signed_eq]
    have hk : ∃ c : Nat, min (-1074 + (e : Int)) (-1074 + (f : Int)) = -1074 + (c : Int) := ⟨min e f, by omega⟩
    obtain ⟨c, hc⟩ := hk
    have x1 : m * 2 ^ e = m * 2 ^ (-1074 + (e : Int) - min (-1074 + (e : Int)) (-1074 + (f : Int))).toNat * 2 ^ c := by rw [Nat.mul_assoc, ← Nat.pow_add]; congr 2; omega
    have x2 : n * 2 ^ f = n * 2 ^ (-1074 + (f : Int) - min (-1074 + (e : Int)) (-1074 + (f : Int))).toNat * 2 ^ c := by rw [Nat.mul_assoc, ← Nat.pow_add]; congr 2; omega
    rw [x1, x2, ← sgnd_mul (fS a) _ (2 ^ c), ← sgnd_mul (fS b) _ (2 ^ c), cmp_mul _ _ (by have := Nat.two_pow_pos c; omega)]
  · obtain ⟨m, e, h1, h2, _⟩ := read_num ha
    rw [h1, read_inf hb]
    simp only [Ieee.Datum.order, hb]
    congr 1
    cases fS b <;> cases fS a <;> simp only [sgnd] <;> simp only [Bool.false_eq_true, if_true, if_false] <;> symm <;> first | exact icmp_lt (by omega) | exact icmp_gt (by omega)
  · obtain ⟨m, e, h1, h2, _⟩ := read_num hb
    rw [h1, read_inf ha]
    simp only [Ieee.Datum.order, ha]
    congr 1
    cases fS b <;> cases fS a <;> simp only [sgnd] <;> simp only [Bool.false_eq_true, if_true, if_false] <;> symm <;> first | exact icmp_lt (by omega) | exact icmp_gt (by omega)
  · rw [read_inf ha, read_inf hb]
    simp only [Ieee.Datum.order, ha, hb]
    congr 1
    cases fS b <;> cases fS a <;> simp only [sgnd] <;> simp only [Bool.false_eq_true, if_true, if_false] <;> symm <;> first | exact icmp_eq rfl | exact icmp_lt (by omega) | exact icmp_gt (by omega)
theorem order_nan_l {a b : Nat} (ha : fI < fR a) : Ieee.double.order a b = none := by
  obtain ⟨f, h⟩ := read_nan ha
  unfold Ieee.Format.order
  rw [h]; rfl
theorem order_nan_r {a b : Nat} (hb : fI < fR b) : Ieee.double.order a b = none := by
  obtain ⟨f, h⟩ := read_nan hb
  unfold Ieee.Format.order
  rw [h]
  cases Ieee.double.read a <;> rfl

/-- the sum, the difference, the quotient of floats that are not below 0 and are no infinity. -/
theorem add_pos {x y : Nat} (hx : x < fI) (hy : y < fI) : ∃ R, Ieee.double.add x y = some R ∧ R ≤ fI ∧ RS R (fV (2 ^ 52) x + fV (2 ^ 52) y) 1 := by
  have hI : fI < 2 ^ 63 := by decide
  have ex := fR_of (Nat.lt_trans hx hI)
  have ey := fR_of (Nat.lt_trans hy hI)
  obtain ⟨m, e, h1, h2, _⟩ := read_num (ex.symm ▸ hx)
  obtain ⟨n, f, g1, g2, _⟩ := read_num (ey.symm ▸ hy)
  rw [ex] at h2
  rw [ey] at g2
  rw [fS_of (Nat.lt_trans hx hI)] at h1
  rw [fS_of (Nat.lt_trans hy hI)] at g1
  unfold Ieee.Format.add
  rw [h1, g1]
  simp only [Ieee.Datum.sum, signed_eq, sgnd, Option.map_some, Ieee.Format.write]
  obtain ⟨c, hc⟩ : ∃ c : Nat, min (-1074 + (e : Int)) (-1074 + (f : Int)) = -1074 + (c : Int) := ⟨min e f, by omega⟩
  rw [hc]
  have k1 : (-1074 + (e : Int) - (-1074 + (c : Int))).toNat = e - c := by omega
  have k2 : (-1074 + (f : Int) - (-1074 + (c : Int))).toNat = f - c := by omega
  rw [k1, k2]
  simp only [Bool.false_eq_true, if_false]
  have hneg : (if ((m * 2 ^ (e - c) : Nat) : Int) + ((n * 2 ^ (f - c) : Nat) : Int) = 0 then (false && false) else decide (((m * 2 ^ (e - c) : Nat) : Int) + ((n * 2 ^ (f - c) : Nat) : Int) < 0)) = false := by
    split
    · rfl
    · exact decide_eq_false (by omega)
  rw [hneg]
  obtain ⟨R, r1, r2, r3⟩ := nearest_RS false (((m * 2 ^ (e - c) : Nat) : Int) + ((n * 2 ^ (f - c) : Nat) : Int)).natAbs (-1074 + (c : Int)) 0 (by omega)
  refine ⟨R, by rw [r1]; rfl, r2, ?_⟩
  have k3 : (-1074 + (c : Int) + 1074 + (0 : Nat)).toNat = c := by omega
  have k4 : (((m * 2 ^ (e - c) : Nat) : Int) + ((n * 2 ^ (f - c) : Nat) : Int)).natAbs = m * 2 ^ (e - c) + n * 2 ^ (f - c) := by omega
  rw [k3, k4, Nat.add_mul, Nat.mul_assoc, ← Nat.pow_add, Nat.mul_assoc, ← Nat.pow_add, show e - c + c = e by omega, show f - c + c = f by omega, ← h2, ← g2] at r3
  exact r3

theorem sub_pos {x y : Nat} (hx : x < fI) (hy : y ≤ x) : ∃ R, Ieee.double.sub x y = some R ∧ R ≤ fI ∧ RS R (fV (2 ^ 52) x - fV (2 ^ 52) y) 1 := by
  have hI : fI < 2 ^ 63 := by decide
  have hyl : y < fI := by omega
  have ex := fR_of (Nat.lt_trans hx hI)
  have ey := fR_of (Nat.lt_trans hyl hI)
  obtain ⟨m, e, h1, h2, _⟩ := read_num (ex.symm ▸ hx)
  obtain ⟨n, f, g1, g2, _⟩ := read_num (ey.symm ▸ hyl)
  rw [ex] at h2
  rw [ey] at g2
  rw [fS_of (Nat.lt_trans hx hI)] at h1
  rw [fS_of (Nat.lt_trans hyl hI)] at g1
  have hle := fV_le (Nat.two_pow_pos 52) hy
  unfold Ieee.Format.sub
  rw [h1, g1]
  simp only [Ieee.Datum.opposite, Ieee.Datum.sum, signed_eq, sgnd, Option.map_some, Ieee.Format.write]
  obtain ⟨c, hc⟩ : ∃ c : Nat, min (-1074 + (e : Int)) (-1074 + (f : Int)) = -1074 + (c : Int) := ⟨min e f, by omega⟩
  rw [hc]
  have k1 : (-1074 + (e : Int) - (-1074 + (c : Int))).toNat = e - c := by omega
  have k2 : (-1074 + (f : Int) - (-1074 + (c : Int))).toNat = f - c := by omega
  rw [k1, k2]
  have q1 : m * 2 ^ (e - c) * 2 ^ c = fV (2 ^ 52) x := by rw [h2, Nat.mul_assoc, ← Nat.pow_add, show e - c + c = e by omega]
  have q2 : n * 2 ^ (f - c) * 2 ^ c = fV (2 ^ 52) y := by rw [g2, Nat.mul_assoc, ← Nat.pow_add, show f - c + c = f by omega]
  generalize m * 2 ^ (e - c) = M at q1 ⊢
  generalize n * 2 ^ (f - c) = N at q2 ⊢
  have hMN : N ≤ M := Nat.le_of_mul_le_mul_right (by rw [q1, q2]; exact hle) (Nat.two_pow_pos c)
  simp only [Bool.false_eq_true, if_false, Bool.not_false, if_true]
  have hneg : (if (M : Int) + -(N : Int) = 0 then (false && true) else decide ((M : Int) + -(N : Int) < 0)) = false := by
    split
    · rfl
    · exact decide_eq_false (by omega)
  rw [hneg]
  obtain ⟨R, r1, r2, r3⟩ := nearest_RS false ((M : Int) + -(N : Int)).natAbs (-1074 + (c : Int)) 0 (by omega)
  refine ⟨R, by rw [r1]; rfl, r2, ?_⟩
  have k3 : (-1074 + (c : Int) + 1074 + (0 : Nat)).toNat = c := by omega
  have k4 : ((M : Int) + -(N : Int)).natAbs = M - N := by omega
  rw [k3, k4, Nat.sub_mul, q1, q2] at r3
  exact r3

/-- how many of the least units are one. -/
def fUe : Nat := 1074
def fU : Nat := 2 ^ fUe
theorem fU_eq {n : Nat} (h : n = 1074) : fU = 2 ^ n := congrArg (2 ^ ·) (show fUe = n from h.symm)
theorem fU_pos : 0 < fU := Nat.two_pow_pos _
theorem div_pos {x y : Nat} (hx : x < fI) (hx0 : 0 < x) (hy : y < fI) (hy0 : 0 < y) : ∃ R, Ieee.double.div x y = some R ∧ R ≤ fI ∧ RS R (fV (2 ^ 52) x * fU) (fV (2 ^ 52) y) := by
  have hI : fI < 2 ^ 63 := by decide
  have ex := fR_of (Nat.lt_trans hx hI)
  have ey := fR_of (Nat.lt_trans hy hI)
  obtain ⟨m, i, h1, h2, hm⟩ := read_num (ex.symm ▸ hx)
  obtain ⟨n, j, g1, g2, hn⟩ := read_num (ey.symm ▸ hy)
  rw [ex] at h2
  rw [ey] at g2
  rw [fS_of (Nat.lt_trans hx hI)] at h1
  rw [fS_of (Nat.lt_trans hy hI)] at g1
  have vx : 0 < fV (2 ^ 52) x := by have := fV_lt (Nat.two_pow_pos 52) hx0; rwa [fV_zero (Nat.two_pow_pos 52)] at this
  have vy : 0 < fV (2 ^ 52) y := by have := fV_lt (Nat.two_pow_pos 52) hy0; rwa [fV_zero (Nat.two_pow_pos 52)] at this
  have hm0 : m ≠ 0 := fun h => by rw [h, Nat.zero_mul] at h2; omega
  have hn0 : n ≠ 0 := fun h => by rw [h, Nat.zero_mul] at g2; omega
  unfold Ieee.Format.div
  rw [h1, g1]
  simp only [Ieee.Datum.quotient, if_neg hn0, Option.map_some, Ieee.Format.write, Nat.shiftLeft_eq]
  rw [show Ieee.double.fractionBits + 2 = 54 from rfl]
  have lm1 : 2 ^ m.log2 ≤ m := Nat.log2_self_le hm0
  have lm2 : m.log2 < 53 := (Nat.log2_lt hm0).2 hm
  have ln2 : n < 2 ^ (n.log2 + 1) := Nat.lt_log2_self
  have ln3 : n.log2 < 53 := (Nat.log2_lt hn0).2 hn
  obtain ⟨more, hmore⟩ : ∃ more, more = 54 + n.log2 - m.log2 := ⟨_, rfl⟩
  rw [← hmore]
  have hX : 2 ^ 54 * 2 ^ n.log2 ≤ m * 2 ^ more := by
    rw [← Nat.pow_add, show 54 + n.log2 = m.log2 + more by omega, Nat.pow_add]
    exact Nat.mul_le_mul_right _ lm1
  have hbig : 2 ^ 53 ≤ m * 2 ^ more / n := by
    refine (Nat.le_div_iff_mul_le (by omega)).2 (Nat.le_trans ?_ hX)
    have : 2 ^ 53 * n ≤ 2 ^ 53 * 2 ^ (n.log2 + 1) := Nat.mul_le_mul_left _ (Nat.le_of_lt ln2)
    refine Nat.le_trans this (Nat.le_of_eq ?_)
    rw [← Nat.pow_add, ← Nat.pow_add]; congr 1; omega
  obtain ⟨e, he⟩ : ∃ e : Nat, e = j + more + 1 := ⟨_, rfl⟩
  obtain ⟨R, r1, r2, r3⟩ := nearest_quo (false ^^ false) (m * 2 ^ more) n (by omega) (-1074 + (i : Int) - (-1074 + (j : Int)) - more - 1) e (by omega) hbig
  refine ⟨R, by rw [r1]; rfl, r2, r3.ratio (Nat.mul_pos (by omega) (Nat.two_pow_pos _)) vy ?_⟩
  obtain ⟨K, hK⟩ : ∃ K, K = 1074 := ⟨_, rfl⟩
  rw [fU_eq hK]
  have k : (-1074 + (i : Int) - (-1074 + (j : Int)) - more - 1 + 1074 + e).toNat = i + K := by omega
  rw [k, h2, g2, he]
  have a1 : 2 * (m * 2 ^ more) * 2 ^ (i + K) * (n * 2 ^ j) = m * n * (2 * 2 ^ more * 2 ^ (i + K) * 2 ^ j) := by
    simp only [Nat.mul_assoc, Nat.mul_left_comm, Nat.mul_comm]
  have a2 : m * 2 ^ i * 2 ^ K * (n * 2 ^ (j + more + 1)) = m * n * (2 ^ i * 2 ^ K * 2 ^ (j + more + 1)) := by
    simp only [Nat.mul_assoc, Nat.mul_left_comm]
  rw [a1, a2]
  refine congrArg (m * n * ·) ?_
  rw [show (2 : Nat) * 2 ^ more = 2 ^ (more + 1) by rw [Nat.pow_succ, Nat.mul_comm], ← Nat.pow_add, ← Nat.pow_add, ← Nat.pow_add, ← Nat.pow_add]
  exact congrArg (2 ^ ·) (by omega)

end Go.Proofs.Ytmbddengmheeeaa
