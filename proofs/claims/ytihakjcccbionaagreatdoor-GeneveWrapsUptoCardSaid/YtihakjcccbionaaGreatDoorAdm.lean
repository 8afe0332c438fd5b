/-
  Plain mathematics of addresses: the first bits of bytes, and the order of bytes. Nothing of the program.
-/
namespace Go.Proofs.YtihakjcccbionaaGreatDoor

/-- the first k bits of a byte (k at most 8). -/
def tb (x : UInt8) (k : Nat) : UInt8 := UInt8.ofNat (x.toNat / 2 ^ (8 - k) * 2 ^ (8 - k))
/-- the first n bits of some bytes. -/
def maskL (l : List UInt8) (n : Nat) : List UInt8 := l.mapIdx fun j x => tb x (min 8 (n - 8 * j))

theorem tb_toNat (x : UInt8) (k : Nat) : (tb x k).toNat = x.toNat / 2 ^ (8 - k) * 2 ^ (8 - k) := by
  have h := x.toNat_lt
  have h2 : x.toNat / 2 ^ (8 - k) * 2 ^ (8 - k) ≤ x.toNat := Nat.div_mul_le_self _ _
  unfold tb
  rw [UInt8.toNat_ofNat_of_lt' (by show _ < 256; omega)]
theorem tb_zero (x : UInt8) : tb x 0 = 0 := by
  apply UInt8.toNat.inj
  rw [tb_toNat, Nat.div_eq_of_lt x.toNat_lt]
  rfl
theorem tb_eight (x : UInt8) : tb x 8 = x := by
  apply UInt8.toNat.inj
  rw [tb_toNat]
  simp
theorem tb_of_zero (k : Nat) : tb 0 k = 0 := by
  apply UInt8.toNat.inj
  rw [tb_toNat]
  simp
theorem tb_tb (x : UInt8) (a b : Nat) : tb (tb x a) b = tb x (min a b) := by
  apply UInt8.toNat.inj
  rw [tb_toNat, tb_toNat, tb_toNat]
  rcases Nat.le_total a b with h | h
  · rw [Nat.min_eq_left h]
    obtain ⟨c, hc⟩ : ∃ c, 8 - a = (8 - b) + c := ⟨(8 - a) - (8 - b), by omega⟩
    rw [hc, Nat.pow_add, show x.toNat / (2 ^ (8 - b) * 2 ^ c) * (2 ^ (8 - b) * 2 ^ c) = (x.toNat / (2 ^ (8 - b) * 2 ^ c) * 2 ^ c) * 2 ^ (8 - b) from by rw [Nat.mul_assoc, Nat.mul_comm (2 ^ c)]]
    rw [Nat.mul_div_cancel _ (Nat.pos_of_ne_zero (by simp))]
  · rw [Nat.min_eq_right h]
    obtain ⟨c, hc⟩ : ∃ c, 8 - b = (8 - a) + c := ⟨(8 - b) - (8 - a), by omega⟩
    rw [hc, Nat.pow_add, ← Nat.div_div_eq_div_mul, Nat.mul_div_cancel _ (Nat.pos_of_ne_zero (by simp)), ← Nat.div_div_eq_div_mul]

theorem length_maskL (l : List UInt8) (n : Nat) : (maskL l n).length = l.length := by simp [maskL]
theorem getElem_maskL (l : List UInt8) (n j : Nat) (h : j < (maskL l n).length) : (maskL l n)[j] = tb (l[j]'(by rwa [length_maskL] at h)) (min 8 (n - 8 * j)) := by simp [maskL]
theorem maskL_maskL (l : List UInt8) (n m : Nat) : maskL (maskL l n) m = maskL l (min n m) := by
  apply List.ext_getElem
  · simp [length_maskL]
  · intro j h1 h2
    rw [getElem_maskL, getElem_maskL, getElem_maskL, tb_tb]
    congr 1
    omega
theorem maskL_all (l : List UInt8) (n : Nat) (h : 8 * l.length ≤ n) : maskL l n = l := by
  apply List.ext_getElem
  · simp [length_maskL]
  · intro j h1 h2
    rw [getElem_maskL, show min 8 (n - 8 * j) = 8 from by omega, tb_eight]
theorem maskL_zero (l : List UInt8) : maskL l 0 = List.replicate l.length 0 := by
  apply List.ext_getElem
  · simp [length_maskL]
  · intro j h1 h2
    rw [getElem_maskL, show min 8 (0 - 8 * j) = 0 from by omega, tb_zero]
    simp
/-- the bytes that 'first' makes: whole ones, and one of which some bits stay. -/
theorem maskL_first (l : List UInt8) (n : Nat) (h : n / 8 ≤ l.length) : maskL l (n / 8 * 8) = l.take (n / 8) ++ List.replicate (l.length - n / 8) 0 := by
  apply List.ext_getElem
  · simp [length_maskL]; omega
  · intro j h1 h2
    rw [getElem_maskL]
    rcases Nat.lt_or_ge j (n / 8) with hj | hj
    · rw [show min 8 (n / 8 * 8 - 8 * j) = 8 from by omega, tb_eight, List.getElem_append_left (by simp; rw [length_maskL] at h1; omega)]
      simp
    · rw [show min 8 (n / 8 * 8 - 8 * j) = 0 from by omega, tb_zero, List.getElem_append_right (by simp; omega)]
      simp
theorem maskL_more (l : List UInt8) (n : Nat) (h : n / 8 < l.length) (hm : 0 < n % 8) : maskL l n = (maskL l (n / 8 * 8)).set (n / 8) (tb l[n / 8] (n % 8)) := by
  apply List.ext_getElem
  · simp [length_maskL]
  · intro j h1 h2
    rw [getElem_maskL, List.getElem_set]
    split
    · next e =>
      subst e
      rw [show min 8 (n - 8 * (n / 8)) = n % 8 from by omega]
    · rw [getElem_maskL]
      congr 1
      omega
theorem maskL_same (l : List UInt8) (n : Nat) (hm : n % 8 = 0) : maskL l n = maskL l (n / 8 * 8) := by
  rw [show n / 8 * 8 = n from by omega]

/-- one bit more. -/
theorem maskL_step (l : List UInt8) (n : Nat) (h : n / 8 < l.length) : maskL l (n + 1) = (maskL l n).set (n / 8) (tb l[n / 8] (n % 8 + 1)) := by
  apply List.ext_getElem
  · simp [length_maskL]
  · intro j h1 h2
    rw [getElem_maskL, List.getElem_set]
    split
    · next e =>
      subst e
      rw [show min 8 (n + 1 - 8 * (n / 8)) = n % 8 + 1 from by omega]
    · rw [getElem_maskL]
      congr 1
      omega
theorem getElem_maskL_at (l : List UInt8) (n : Nat) (h : n / 8 < l.length) : (maskL l n)[n / 8]'(by rwa [length_maskL]) = tb l[n / 8] (n % 8) := by
  rw [getElem_maskL, show min 8 (n - 8 * (n / 8)) = n % 8 from by omega]

/-- can it be: of four all bytes from the fifth on are 0. -/
def rightL (v : Bool) (l : List UInt8) : Bool := v || l == maskL l 32
theorem right_four (l : List UInt8) (h : l.length = 16) : maskL l 32 = l ↔ ∀ j (hj : j < l.length), 4 ≤ j → l[j] = 0 := by
  constructor
  · intro e j hj h4
    have := getElem_maskL l 32 j (by rwa [length_maskL])
    rw [show min 8 (32 - 8 * j) = 0 from by omega, tb_zero] at this
    rw [← this]
    simp only [e]
  · intro e
    apply List.ext_getElem
    · rw [length_maskL]
    · intro j h1 h2
      rw [getElem_maskL]
      rcases Nat.lt_or_ge j 4 with hj | hj
      · rw [show min 8 (32 - 8 * j) = 8 from by omega, tb_eight]
      · rw [show min 8 (32 - 8 * j) = 0 from by omega, tb_zero, e j h2 hj]

/-! the order of bytes: one stands ahead by the first byte that is not the same. -/
def lexLt : List UInt8 → List UInt8 → Bool
  | a :: as, b :: bs => if a < b then true else if b < a then false else lexLt as bs
  | _, _ => false
theorem lexLt_irrefl : ∀ a : List UInt8, lexLt a a = false
  | [] => rfl
  | x :: a => by unfold lexLt; rw [if_neg (UInt8.lt_irrefl x), if_neg (UInt8.lt_irrefl x)]; exact lexLt_irrefl a
theorem u8_eq_of {a b : UInt8} (h1 : ¬ a < b) (h2 : ¬ b < a) : a = b := by
  rw [UInt8.lt_iff_toNat_lt] at h1 h2
  exact UInt8.toNat.inj (by omega)
theorem lexLt_total : ∀ a b : List UInt8, a.length = b.length → a ≠ b → lexLt a b = !lexLt b a
  | [], [], _, h => absurd rfl h
  | x :: a, y :: b, hl, h => by
    unfold lexLt
    by_cases h1 : x < y
    · have h2 : ¬ y < x := by rw [UInt8.lt_iff_toNat_lt] at h1 ⊢; omega
      simp [h1, h2]
    · by_cases h2 : y < x
      · simp [h1, h2]
      · obtain rfl := u8_eq_of h1 h2
        rw [if_neg h1, if_neg h1, if_neg h1, if_neg h1]
        exact lexLt_total a b (by simpa using hl) (fun e => h (by rw [e]))
theorem lexLt_trans : ∀ a b c : List UInt8, lexLt a b = true → lexLt b c = true → lexLt a c = true
  | x :: a, y :: b, z :: c, h1, h2 => by
    unfold lexLt at h1 h2 ⊢
    simp only [UInt8.lt_iff_toNat_lt] at h1 h2 ⊢
    by_cases xy : x.toNat < y.toNat
    · by_cases yz : y.toNat < z.toNat
      · rw [if_pos (by omega)]
      · rw [if_neg yz] at h2
        by_cases zy : z.toNat < y.toNat
        · rw [if_pos zy] at h2; cases h2
        · rw [if_pos (by omega)]
    · rw [if_neg xy] at h1
      by_cases yx : y.toNat < x.toNat
      · rw [if_pos yx] at h1; cases h1
      · rw [if_neg yx] at h1
        by_cases yz : y.toNat < z.toNat
        · rw [if_pos (by omega)]
        · rw [if_neg yz] at h2
          by_cases zy : z.toNat < y.toNat
          · rw [if_pos zy] at h2; cases h2
          · rw [if_neg zy] at h2
            rw [if_neg (by omega), if_neg (by omega)]
            exact lexLt_trans a b c h1 h2
  | [], _, _, h1, _ => by simp [lexLt] at h1
  | _ :: _, [], _, h1, _ => by simp [lexLt] at h1
  | _ :: _, _ :: _, [], _, h2 => by simp [lexLt] at h2

/-- which address stands ahead. -/
def lessA (v : Bool) (l : List UInt8) (v' : Bool) (l' : List UInt8) : Bool := if v = v' then lexLt l l' else !v
theorem lessA_irrefl (v : Bool) (l : List UInt8) : lessA v l v l = false := by unfold lessA; rw [if_pos rfl]; exact lexLt_irrefl l
theorem lessA_total {v v' : Bool} {l l' : List UInt8} (hl : l.length = l'.length) (h : ¬ (v = v' ∧ l = l')) : lessA v l v' l' = !lessA v' l' v l := by
  unfold lessA
  by_cases e : v = v'
  · subst e
    rw [if_pos rfl, if_pos rfl]
    exact lexLt_total l l' hl (fun e => h ⟨rfl, e⟩)
  · rw [if_neg e, if_neg (fun h => e h.symm)]
    cases v <;> cases v' <;> simp_all
theorem lessA_trans {v v' v'' : Bool} {l l' l'' : List UInt8} (h1 : lessA v l v' l' = true) (h2 : lessA v' l' v'' l'' = true) : lessA v l v'' l'' = true := by
  unfold lessA at *
  cases v <;> cases v' <;> cases v'' <;> simp_all
  · exact lexLt_trans _ _ _ h1 h2
  · exact lexLt_trans _ _ _ h1 h2
end Go.Proofs.YtihakjcccbionaaGreatDoor
