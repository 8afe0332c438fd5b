/-
  Plain mathematics of tuples as bytes: what a tuple's bytes are, which tuple some bytes say, there and back.
-/
import Derived.Test.YtlcgciafclfoeaaTup
import Derived.Test.YtlcgciafclfoeaaLay1
namespace Go.Proofs.Ytlcgciafclfoeaa

/-- a tuple's bytes. -/
def tupB (t : Tup) : List UInt8 := [if t.sv then 6 else 4, UInt8.ofNat t.p.toNat] ++ (t.sb ++ (t.db ++ (numBytes t.s.toNat 2 2 ++ numBytes t.d.toNat 2 2)))
def tupE : Tup := ⟨false, List.replicate 16 0, false, List.replicate 16 0, 0, 0, 0⟩
/-- the tuple that some bytes say, if they say one. -/
def gotT (b : List UInt8) : Tup := ⟨b.getD 0 0 == 6, (b.drop 2).take 16, b.getD 0 0 == 6, (b.drop 18).take 16, ((b.getD 1 0).toNat : Int), (numS ((b.drop 34).take 2) : Int), (numS ((b.drop 36).take 2) : Int)⟩
/-- the error of some bytes as a tuple. -/
def getE (b : List UInt8) : Int :=
  if b.length ≠ 38 then 3 else if (b.getD 0 0).toNat ≠ 4 ∧ (b.getD 0 0).toNat ≠ 6 then 13 else if protoOk (gotT b).p = false then 14 else if (rightL (gotT b).sv (gotT b).sb && rightL (gotT b).dv (gotT b).db) = false then 11 else 0
def getT (b : List UInt8) : Tup := if getE b = 0 then gotT b else tupE
def putB (t : Tup) : List UInt8 := if rightT t then tupB t else []
def putE (t : Tup) : Int := if rightT t then 0 else 1

theorem numB2 (n : Nat) : numBytes n 2 2 = [UInt8.ofNat (n / 256), UInt8.ofNat n] := by simp [numBytes, List.range_succ]
theorem numS2 (x y : UInt8) : numS [x, y] = x.toNat * 256 + y.toNat := by simp [numS]
theorem port_back {n : Int} (h : portOk n = true) : (numS (numBytes n.toNat 2 2) : Int) = n := by
  unfold portOk at h
  simp at h
  rw [numB2, numS2, UInt8.toNat_ofNat', UInt8.toNat_ofNat']
  have : (2 : Nat) ^ 8 = 256 := rfl
  omega
theorem bytes_back (x y : UInt8) : numBytes (numS [x, y]) 2 2 = [x, y] := by
  have hx := x.toNat_lt
  have hy := y.toNat_lt
  rw [numS2, numB2]
  have e1 : (x.toNat * 256 + y.toNat) / 256 = x.toNat := by omega
  have e2 : UInt8.ofNat (x.toNat * 256 + y.toNat) = y := by
    apply UInt8.toNat.inj
    rw [UInt8.toNat_ofNat']
    omega
  rw [e1, e2, UInt8.ofNat_toNat]
theorem port_of (x y : UInt8) : portOk (numS [x, y] : Int) = true := by
  have hx := x.toNat_lt
  have hy := y.toNat_lt
  rw [numS2]
  unfold portOk
  simp
  omega
theorem length_tupB {t : Tup} (hs : t.sb.length = 16) (hd : t.db.length = 16) : (tupB t).length = 38 := by simp [tupB, numB2, hs, hd]
theorem gotT_tupB {t : Tup} (hs : t.sb.length = 16) (hd : t.db.length = 16) (h : rightT t = true) : gotT (tupB t) = t := by
  unfold rightT at h
  simp only [Bool.and_eq_true, beq_iff_eq] at h
  obtain ⟨⟨⟨⟨⟨h1, h2⟩, h3⟩, h4⟩, h5⟩, h6⟩ := h
  obtain ⟨sv, sb, dv, db, p, s, d⟩ := t
  simp only at h1 h2 h3 h4 h5 h6 hs hd
  subst h3
  have hv : (((if sv = true then 6 else 4 : UInt8)) == 6) = sv := by cases sv <;> rfl
  have hp : (((UInt8.ofNat p.toNat).toNat : Int)) = p := by
    unfold protoOk at h4
    simp at h4
    rcases h4 with rfl | rfl <;> rfl
  have e1 : (tupB ⟨sv, sb, sv, db, p, s, d⟩).drop 2 = sb ++ (db ++ (numBytes s.toNat 2 2 ++ numBytes d.toNat 2 2)) := rfl
  have e2 : (tupB ⟨sv, sb, sv, db, p, s, d⟩).drop 18 = db ++ (numBytes s.toNat 2 2 ++ numBytes d.toNat 2 2) := by
    rw [show 18 = 2 + 16 from rfl, ← List.drop_drop, e1, List.drop_append_of_le_length (by omega), List.drop_of_length_le (by omega), List.nil_append]
  have e3 : (tupB ⟨sv, sb, sv, db, p, s, d⟩).drop 34 = (numBytes s.toNat 2 2 ++ numBytes d.toNat 2 2) := by
    rw [show 34 = 18 + 16 from rfl, ← List.drop_drop, e2, List.drop_append_of_le_length (by omega), List.drop_of_length_le (by omega), List.nil_append]
  have e4 : (tupB ⟨sv, sb, sv, db, p, s, d⟩).drop 36 = numBytes d.toNat 2 2 := by
    rw [show 36 = 34 + 2 from rfl, ← List.drop_drop, e3]
    rw [numB2 s.toNat]; rfl
  unfold gotT
  rw [e1, e2, e3, e4, List.take_append_of_le_length (by omega), List.take_of_length_le (by omega), List.take_append_of_le_length (by omega), List.take_of_length_le (by omega)]
  have e5 : (numBytes s.toNat 2 2 ++ numBytes d.toNat 2 2).take 2 = numBytes s.toNat 2 2 := by rw [numB2 s.toNat]; rfl
  have e6 : (numBytes d.toNat 2 2).take 2 = numBytes d.toNat 2 2 := by rw [numB2 d.toNat]; rfl
  rw [e5, e6, port_back h5, port_back h6]
  show Tup.mk _ _ _ _ _ _ _ = _
  have e7 : (tupB ⟨sv, sb, sv, db, p, s, d⟩).getD 0 0 = (if sv = true then 6 else 4) := rfl
  have e8 : (tupB ⟨sv, sb, sv, db, p, s, d⟩).getD 1 0 = UInt8.ofNat p.toNat := rfl
  rw [e7, e8, hv, hp]
theorem getT_tupB {t : Tup} (hs : t.sb.length = 16) (hd : t.db.length = 16) (h : rightT t = true) : getE (tupB t) = 0 ∧ getT (tupB t) = t := by
  have hg := gotT_tupB hs hd h
  have h0 := h
  have hl := length_tupB hs hd
  unfold rightT at h
  simp only [Bool.and_eq_true, beq_iff_eq] at h
  obtain ⟨⟨⟨⟨⟨h1, h2⟩, h3⟩, h4⟩, h5⟩, h6⟩ := h
  have e : getE (tupB t) = 0 := by
    unfold getE
    rw [if_neg (by omega), hg, if_neg, if_neg (by simp [h4]), if_neg (by simp [h1, h2])]
    have e7 : (tupB t).getD 0 0 = (if t.sv = true then 6 else 4) := rfl
    rw [e7]
    cases t.sv <;> decide
  refine ⟨e, ?_⟩
  unfold getT
  rw [if_pos e, hg]
theorem split38 {b : List UInt8} (h : b.length = 38) : ∃ v p x y z u, b = [v, p] ++ ((b.drop 2).take 16 ++ ((b.drop 18).take 16 ++ ([x, y] ++ [z, u]))) ∧ (b.drop 34).take 2 = [x, y] ∧ (b.drop 36).take 2 = [z, u] := by
  have e34 : (b.drop 34).length = 4 := by simp [h]
  match h34 : b.drop 34, e34 with
  | [x, y, z, u], _ =>
    have e36 : b.drop 36 = [z, u] := by rw [show 36 = 34 + 2 from rfl, ← List.drop_drop, h34]; rfl
    match hb : b, h with
    | v :: p :: t, _ =>
      refine ⟨v, p, x, y, z, u, ?_, rfl, by rw [e36]; rfl⟩
      have e1 : (v :: p :: t).drop 18 = (v :: p :: t).drop (2 + 16) := rfl
      have e2 : (v :: p :: t).drop 34 = (v :: p :: t).drop (18 + 16) := rfl
      have a1 : (((v :: p :: t).drop 18).take 16 ++ ([x, y] ++ [z, u])) = (v :: p :: t).drop 18 := by
        rw [show [x, y] ++ [z, u] = [x, y, z, u] from rfl, ← h34, e2, ← List.drop_drop, List.take_append_drop]
      rw [a1, e1, ← List.drop_drop, List.take_append_drop]
      rfl
theorem rightT_of {b : List UInt8} (h : getE b = 0) : rightT (gotT b) = true ∧ tupB (gotT b) = b ∧ b.length = 38 := by
  unfold getE at h
  by_cases hl : b.length = 38
  · rw [if_neg (by omega)] at h
    by_cases hv : (b.getD 0 0).toNat ≠ 4 ∧ (b.getD 0 0).toNat ≠ 6
    · rw [if_pos hv] at h; exact absurd h (by decide)
    rw [if_neg hv] at h
    cases hp : protoOk (gotT b).p
    · rw [if_pos hp] at h; exact absurd h (by decide)
    rw [if_neg (by simp [hp])] at h
    cases hr : (rightL (gotT b).sv (gotT b).sb && rightL (gotT b).dv (gotT b).db)
    · rw [if_pos hr] at h; exact absurd h (by decide)
    obtain ⟨v, p, x, y, z, u, hb, h34, h36⟩ := split38 hl
    have e0 : b.getD 0 0 = v := by rw [hb]; rfl
    have e1 : b.getD 1 0 = p := by rw [hb]; rfl
    refine ⟨?_, ?_, hl⟩
    · unfold rightT
      have hs : portOk (gotT b).s = true := by show portOk (numS ((b.drop 34).take 2) : Int) = true; rw [h34]; exact port_of x y
      have hd : portOk (gotT b).d = true := by show portOk (numS ((b.drop 36).take 2) : Int) = true; rw [h36]; exact port_of z u
      have he : ((gotT b).sv == (gotT b).dv) = true := by show ((b.getD 0 0 == 6) == (b.getD 0 0 == 6)) = true; simp
      rw [hr, he, hp, hs, hd]; rfl
    · have hn1 : numBytes (gotT b).s.toNat 2 2 = [x, y] := by
        show numBytes ((numS ((b.drop 34).take 2) : Int)).toNat 2 2 = _
        rw [h34, Int.toNat_natCast, bytes_back]
      have hn2 : numBytes (gotT b).d.toNat 2 2 = [z, u] := by
        show numBytes ((numS ((b.drop 36).take 2) : Int)).toNat 2 2 = _
        rw [h36, Int.toNat_natCast, bytes_back]
      have hpp : UInt8.ofNat (gotT b).p.toNat = p := by
        show UInt8.ofNat (((b.getD 1 0).toNat : Int)).toNat = p
        rw [e1, Int.toNat_natCast, UInt8.ofNat_toNat]
      have hvv : (if (gotT b).sv = true then (6 : UInt8) else 4) = v := by
        show (if (b.getD 0 0 == 6) = true then (6 : UInt8) else 4) = v
        rw [e0] at hv ⊢
        by_cases h6 : v = 6
        · subst h6; rfl
        · rw [if_neg (by simpa using h6)]
          apply UInt8.toNat.inj
          have : v.toNat ≠ 6 := fun hh => h6 (UInt8.toNat.inj (by rw [hh]; rfl))
          have h4 : v.toNat = 4 := by
            rcases Classical.em (v.toNat = 4) with h | h
            · exact h
            · exact absurd ⟨h, this⟩ hv
          rw [h4]; rfl
      unfold tupB
      rw [hn1, hn2, hpp, hvv]
      exact hb.symm
  · rw [if_pos (by omega)] at h; exact absurd h (by decide)
end Go.Proofs.Ytlcgciafclfoeaa
