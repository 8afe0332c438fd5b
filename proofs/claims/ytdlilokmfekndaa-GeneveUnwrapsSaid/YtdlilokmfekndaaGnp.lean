/-
  Bytes as a tunnel, in mathematics: there and back.
-/
import Derived.Test.YtdlilokmfekndaaGng
import Derived.Test.YtdlilokmfekndaaMrd
namespace Go.Proofs.Ytdlilokmfekndaa
open Go.RowKit
set_option linter.unusedVariables false
set_option linter.unusedSimpArgs false

def atN (b : List UInt8) (k m : Nat) : Nat := numS ((b.drop k).take m)
theorem atN_here {N m : Nat} (pre t : List UInt8) (k : Nat) (hk : k = pre.length) (h : N < 256 ^ m) : atN (pre ++ (numBytes N m m ++ t)) k m = N := by
  unfold atN
  subst hk
  rw [List.drop_left, List.take_append_of_le_length (by rw [length_numBytes]; exact Nat.le_refl _), List.take_of_length_le (by rw [length_numBytes]; exact Nat.le_refl _), numS_all h]
theorem atN_lt (b : List UInt8) (k m : Nat) : atN b k m < 256 ^ m := by
  unfold atN
  refine Nat.lt_of_lt_of_le (numS_lt _) (Nat.pow_le_pow_right (by decide) (by simp; omega))
/-- bytes as options from place k on, one behind the other; n rounds are enough. -/
def optsP (b : List UInt8) : Nat → Nat → List OpD → List OpD × Int
  | 0, _, acc => (acc, 0)
  | n + 1, k, acc =>
    if b.length ≤ k then (acc, 0)
    else if b.length < k + 4 + 4 * (atN b (k + 3) 1 % 32) then ([], 10)
    else if 32 ≤ atN b (k + 3) 1 then ([], 11)
    else optsP b n (k + 4 + 4 * (atN b (k + 3) 1 % 32)) (acc ++ [((atN b k 2 : Int), (atN b (k + 2) 1 : Int), (b.drop (k + 4)).take (4 * (atN b (k + 3) 1 % 32)))])
def zT : TuD := ⟨false, 0, 0, [], []⟩
def parD (b : List UInt8) : TuD × Int :=
  if b.length < 8 then (zT, 10)
  else if 64 ≤ atN b 0 1 then (zT, 13)
  else if atN b 1 1 % 64 ≠ 0 ∨ atN b 7 1 ≠ 0 then (zT, 11)
  else if b.length < 8 + 4 * atN b 0 1 then (zT, 10)
  else if (optsP ((b.drop 8).take (4 * atN b 0 1)) (4 * atN b 0 1) 0 []).2 ≠ 0 then (zT, (optsP ((b.drop 8).take (4 * atN b 0 1)) (4 * atN b 0 1) 0 []).2)
  else if critD (optsP ((b.drop 8).take (4 * atN b 0 1)) (4 * atN b 0 1) 0 []).1 ≠ decide (atN b 1 1 / 64 % 2 = 1) then (zT, 11)
  else (⟨decide (128 ≤ atN b 1 1), (atN b 2 2 : Int), (atN b 4 3 : Int), (optsP ((b.drop 8).take (4 * atN b 0 1)) (4 * atN b 0 1) 0 []).1, b.drop (8 + 4 * atN b 0 1)⟩, 0)
theorem okdG_inv {o : OpD} (h : okdG o = true) : ∃ c t : Nat, o.1 = (c : Int) ∧ c ≤ 65535 ∧ o.2.1 = (t : Int) ∧ t ≤ 255 ∧ ∃ q : Nat, o.2.2.length = 4 * q ∧ q ≤ 31 := by
  unfold okdG at h
  simp only [Bool.and_eq_true] at h
  obtain ⟨h1, h2, h3, h4⟩ := h
  obtain ⟨c, hc, hc2⟩ := upG_nat h1
  obtain ⟨t, ht, ht2⟩ := upG_nat h2
  have h5 : o.2.2.length % 4 = 0 := by simpa using h3
  have h6 : o.2.2.length ≤ 124 := by simpa using h4
  exact ⟨c, t, hc, by omega, ht, by omega, o.2.2.length / 4, by omega, by omega⟩
theorem optD_len {o : OpD} : (optD o).length = 4 + o.2.2.length := by
  unfold optD; simp [length_numBytes]; omega
theorem optsD_len (L : List OpD) : (L.flatMap optD).length = sizeD L := by
  induction L with
  | nil => rfl
  | cons a l ih => rw [List.flatMap_cons, List.length_append, ih, optD_len]; simp [sizeD]
theorem optsP_back (L : List OpD) : ∀ (pre : List UInt8) (n : Nat) (acc : List OpD) (k : Nat), k = pre.length → L.all okdG = true → L.length ≤ n → optsP (pre ++ L.flatMap optD) n k acc = (acc ++ L, 0) := by
  induction L with
  | nil =>
    intro pre n acc k hk _ _
    cases n with
    | zero => simp [optsP]
    | succ n => unfold optsP; rw [if_pos (by simp; omega)]; simp
  | cons o L ih =>
    intro pre n acc k hk hok hn
    rw [List.all_cons, Bool.and_eq_true] at hok
    obtain ⟨c, t, hc, hc2, ht, ht2, q, hq, hq2⟩ := okdG_inv hok.1
    obtain ⟨n, rfl⟩ : ∃ m, n = m + 1 := ⟨n - 1, by simp at hn; omega⟩
    obtain ⟨oc, ot, od⟩ := o
    simp only at hc ht hq
    subst hc ht
    have hD : optD ((c : Int), (t : Int), od) = numBytes c 2 2 ++ (numBytes t 1 1 ++ (numBytes q 1 1 ++ od)) := by
      unfold optD
      simp only [Int.toNat_natCast]
      rw [hq, Nat.mul_div_cancel_left _ (by decide)]
    obtain ⟨R, hR⟩ : ∃ R, R = L.flatMap optD := ⟨_, rfl⟩
    have hb : pre ++ ((((c : Int), (t : Int), od) : OpD) :: L).flatMap optD = pre ++ (numBytes c 2 2 ++ (numBytes t 1 1 ++ (numBytes q 1 1 ++ (od ++ R)))) := by
      rw [List.flatMap_cons, hD, hR]; simp only [List.append_assoc]
    have hb2 : pre ++ ((((c : Int), (t : Int), od) : OpD) :: L).flatMap optD = (pre ++ optD ((c : Int), (t : Int), od)) ++ L.flatMap optD := by
      rw [List.flatMap_cons, List.append_assoc]
    obtain ⟨b, hbb⟩ : ∃ b, b = pre ++ ((((c : Int), (t : Int), od) : OpD) :: L).flatMap optD := ⟨_, rfl⟩
    rw [← hbb] at hb hb2 ⊢
    have hlen : b.length = k + (4 + (4 * q + R.length)) := by rw [hb]; simp [length_numBytes]; omega
    have a0 : atN b k 2 = c := by rw [hb]; exact atN_here pre _ k hk (by omega)
    have a1 : atN b (k + 2) 1 = t := by
      rw [hb, ← List.append_assoc]; exact atN_here _ _ _ (by simp [length_numBytes]; omega) (by omega)
    have a2 : atN b (k + 3) 1 = q := by
      rw [hb, ← List.append_assoc, ← List.append_assoc]; exact atN_here _ _ _ (by simp [length_numBytes]; omega) (by omega)
    have hq32 : q % 32 = q := by omega
    have a3 : (b.drop (k + 4)).take (4 * q) = od := by
      rw [hb, ← List.append_assoc, ← List.append_assoc, ← List.append_assoc, List.drop_left' (by simp [length_numBytes]; omega), List.take_left' hq]
    unfold optsP
    rw [a2, hq32, if_neg (by omega), if_neg (by omega), if_neg (by omega), a0, a1, a3, hb2]
    rw [ih _ n _ (k + 4 + 4 * q) (by rw [List.length_append, optD_len]; simp only []; omega) hok.2 (by simp at hn; omega)]
    simp
theorem sizeD_four {L : List OpD} (h : L.all okdG = true) : sizeD L % 4 = 0 := by
  induction L with
  | nil => rfl
  | cons a l ih =>
    rw [List.all_cons, Bool.and_eq_true] at h
    obtain ⟨c, t, hc, hc2, ht, ht2, q, hq, hq2⟩ := okdG_inv h.1
    have := ih h.2
    simp only [sizeD, List.map_cons, List.sum_cons] at this ⊢
    omega
theorem len_sizeD (L : List OpD) : 4 * L.length ≤ sizeD L := by
  induction L with
  | nil => simp [sizeD]
  | cons a l ih => simp only [sizeD, List.map_cons, List.sum_cons, List.length_cons] at ih ⊢; omega
theorem flD_cases (o : Bool) (L : List OpD) : ∃ F : Nat, flD o L = (F : Int) ∧ F < 256 ∧ F % 64 = 0 ∧ decide (128 ≤ F) = o ∧ decide (F / 64 % 2 = 1) = critD L := by
  unfold flD
  cases o <;> cases critD L
  · exact ⟨0, by simp⟩
  · exact ⟨64, by simp⟩
  · exact ⟨128, by simp⟩
  · exact ⟨192, by simp⟩
theorem parD_byt {T : TuD} (hr : rightD T = true) (hs : sizeD T.l ≤ 252) : parD (bytD T) = (T, 0) := by
  unfold rightD at hr
  simp only [Bool.and_eq_true] at hr
  obtain ⟨hp, hv, hall⟩ := hr
  obtain ⟨o, p, v, L, D⟩ := T
  simp only at hp hv hall hs
  obtain ⟨pn, rfl, hp2⟩ := upG_nat hp
  obtain ⟨vn, rfl, hv2⟩ := upG_nat hv
  have h4 := sizeD_four hall
  obtain ⟨S, hS⟩ : ∃ S, sizeD L = 4 * S := ⟨sizeD L / 4, by omega⟩
  obtain ⟨F, hF, hF2, hF3, hF4, hF5⟩ := flD_cases o L
  obtain ⟨R, hR⟩ : ∃ R, R = L.flatMap optD := ⟨_, rfl⟩
  have hRl : R.length = 4 * S := by rw [hR, optsD_len, hS]
  have hb : bytD ⟨o, (pn : Int), (vn : Int), L, D⟩ = numBytes S 1 1 ++ (numBytes F 1 1 ++ (numBytes pn 2 2 ++ (numBytes vn 3 3 ++ (numBytes 0 1 1 ++ (R ++ D))))) := by
    unfold bytD
    simp only [hF, Int.toNat_natCast]
    rw [hS, Nat.mul_div_cancel_left _ (by decide), hR]
  obtain ⟨b, hbb⟩ : ∃ b, b = bytD ⟨o, (pn : Int), (vn : Int), L, D⟩ := ⟨_, rfl⟩
  rw [← hbb] at hb ⊢
  have hlen : b.length = 8 + (4 * S + D.length) := by rw [hb]; simp [length_numBytes]; omega
  have a0 : atN b 0 1 = S := by rw [hb]; exact atN_here [] _ 0 rfl (by omega)
  have a1 : atN b 1 1 = F := by rw [hb]; exact atN_here _ _ 1 (by simp [length_numBytes]) (by omega)
  have a2 : atN b 2 2 = pn := by rw [hb, ← List.append_assoc]; exact atN_here _ _ 2 (by simp [length_numBytes]) (by omega)
  have a3 : atN b 4 3 = vn := by rw [hb, ← List.append_assoc, ← List.append_assoc]; exact atN_here _ _ 4 (by simp [length_numBytes]) (by omega)
  have a4 : atN b 7 1 = 0 := by rw [hb, ← List.append_assoc, ← List.append_assoc, ← List.append_assoc]; exact atN_here _ _ 7 (by simp [length_numBytes]) (by decide)
  have hd : b.drop 8 = R ++ D := by rw [hb, ← List.append_assoc, ← List.append_assoc, ← List.append_assoc, ← List.append_assoc]; exact List.drop_left' (by simp [length_numBytes])
  have hd2 : b.drop (8 + 4 * S) = D := by rw [← List.drop_drop, hd]; exact List.drop_left' hRl
  have ht : (b.drop 8).take (4 * S) = R := by rw [hd]; exact List.take_left' hRl
  have hop : optsP R (4 * S) 0 [] = (L, 0) := by
    have := optsP_back L [] (4 * S) [] 0 rfl hall (by have := len_sizeD L; omega)
    rw [List.nil_append, List.nil_append, ← hR] at this
    exact this
  unfold parD
  rw [a0, a1, a4, ht, hop, a2, a3, hd2, if_neg (by omega), if_neg (by omega), if_neg (by omega), if_neg (by omega), if_neg (by simp), if_neg (by rw [hF5]; simp), hF4]
end Go.Proofs.Ytdlilokmfekndaa
