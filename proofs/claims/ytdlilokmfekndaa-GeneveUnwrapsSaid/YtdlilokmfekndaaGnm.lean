/-
  The document's own Put of a tunnel: its first half, whether it can be and how long it is.
-/
import Derived.Test.YtdlilokmfekndaaGng
import Derived.Deep.CutRange
namespace Go.Proofs.Ytdlilokmfekndaa
open Go.RowKit
set_option maxRecDepth 100000
set_option linter.unusedVariables false
set_option linter.unusedSimpArgs false

/-- the options' size, reckoned till it is too much. -/
def capD (l : List OpD) : Nat := l.foldl (fun s o => if s ≤ 252 then s + (4 + o.2.2.length) else s) 0
theorem capD_snoc (l : List OpD) (o : OpD) : capD (l ++ [o]) = if capD l ≤ 252 then capD l + (4 + o.2.2.length) else capD l := by
  unfold capD; rw [List.foldl_append]; rfl
theorem capD_fold (l : List OpD) : ∀ s : Nat, (s + sizeD l ≤ 252 → l.foldl (fun s (o : OpD) => if s ≤ 252 then s + (4 + o.2.2.length) else s) s = s + sizeD l) ∧ (252 < s + sizeD l → 252 < l.foldl (fun s (o : OpD) => if s ≤ 252 then s + (4 + o.2.2.length) else s) s) := by
  induction l with
  | nil => intro s; simp [sizeD]
  | cons o l ih =>
    intro s
    have e : sizeD (o :: l) = (4 + o.2.2.length) + sizeD l := rfl
    rw [e, List.foldl_cons]
    by_cases h : s ≤ 252
    · rw [if_pos h]
      obtain ⟨h1, h2⟩ := ih (s + (4 + o.2.2.length))
      exact ⟨fun h3 => by rw [h1 (by omega)]; omega, fun h3 => h2 (by omega)⟩
    · rw [if_neg h]
      obtain ⟨h1, h2⟩ := ih s
      exact ⟨fun h3 => by omega, fun h3 => by
        rcases Nat.lt_or_ge 252 (s + sizeD l) with h4 | h4
        · exact h2 h4
        · omega⟩
theorem capD_le {l : List OpD} : (sizeD l ≤ 252 → capD l = sizeD l) ∧ (252 < sizeD l → 252 < capD l) := by
  have := capD_fold l 0
  simp only [Nat.zero_add] at this
  exact this
theorem capD_max {l : List OpD} {M : Nat} (h : ∀ x ∈ l, x.2.2.length ≤ M) : capD l ≤ 256 + M := by
  unfold capD
  have : ∀ (l : List OpD) (s : Nat), (∀ x ∈ l, x.2.2.length ≤ M) → s ≤ 256 + M → l.foldl (fun s (o : OpD) => if s ≤ 252 then s + (4 + o.2.2.length) else s) s ≤ 256 + M := by
    intro l
    induction l with
    | nil => intro s _ hs; exact hs
    | cons o l ih =>
      intro s hx hs
      rw [List.foldl_cons]
      refine ih _ (fun x h => hx x (List.mem_cons_of_mem _ h)) ?_
      have := hx o List.mem_cons_self
      split <;> omega
  exact this l 0 h (by omega)
theorem take_snoc {l : List OpD} {j : Nat} (h : j < l.length) : l.take (j + 1) = l.take j ++ [l[j]] := List.take_succ_eq_append_getElem h
theorem crit_snoc (l : List OpD) (o : OpD) : critD (l ++ [o]) = (critD l || decide (128 ≤ o.2.1)) := by
  unfold critD; rw [List.any_append, List.any_cons, List.any_nil, Bool.or_false]
theorem all_snoc (l : List OpD) (o : OpD) : (l ++ [o]).all okdG = (l.all okdG && okdG o) := by
  rw [List.all_append, List.all_cons, List.all_nil, Bool.and_true]
/-- what is put, as the document says it. -/
def putO (ok0 : Bool) (T : TuD) (B : List UInt8) : List UInt8 × Nat := if (ok0 && T.l.all okdG) = false then ([], 1) else if 252 < capD T.l then ([], 3) else if (65527 : Int) - capD T.l < T.D.length then ([], 3) else (B, 0)
theorem opt_cellsM {w : World} {g : Nat} {c t : Int} {v : Value} {ty : TypeId} (hg : w.heap[g]? = some (.cells #[.int .i64 c, .int .i64 t, v] ty (0, 0))) :
    w.cell? ⟨g, 0, none⟩ = some (.int .i64 c) ∧ w.cell? ⟨g, 1, none⟩ = some (.int .i64 t) ∧ w.cell? ⟨g, 2, none⟩ = some v :=
  ⟨(cell_of_row w g 0 _ _ (0, 0) hg).trans rfl, (cell_of_row w g 1 _ _ (0, 0) hg).trans rfl, (cell_of_row w g 2 _ _ (0, 0) hg).trans rfl⟩
theorem bytD_len (T : TuD) : (bytD T).length = 8 + (sizeD T.l + T.D.length) := by
  unfold bytD
  simp only [List.length_append, length_numBytes]
  have : (T.l.flatMap optD).length = sizeD T.l := by
    generalize T.l = L
    induction L with
    | nil => rfl
    | cons a l ih => rw [List.flatMap_cons, List.length_append, ih]; unfold optD; simp [length_numBytes, sizeD]; omega
  omega
theorem numB3 (n : Nat) : numBytes n 3 3 = [UInt8.ofNat (n / 65536), UInt8.ofNat (n / 256), UInt8.ofNat n] := by simp [numBytes, List.range_succ]
theorem numB2m (n : Nat) : numBytes n 2 2 = [UInt8.ofNat (n / 256), UInt8.ofNat n] := by simp [numBytes, List.range_succ]
theorem numB1m (n : Nat) : numBytes n 1 1 = [UInt8.ofNat n] := by simp [numBytes]
theorem byteV_of (n : Nat) : byteV (UInt8.ofNat n) = .int .u8 ((n % 256 : Nat) : Int) := by simp [byteV]
/-- a tunnel's first eight bytes. -/
def hd8 (S F p v : Nat) : List UInt8 := numBytes (S / 4) 1 1 ++ (numBytes F 1 1 ++ (numBytes p 2 2 ++ (numBytes v 3 3 ++ numBytes 0 1 1)))
theorem hd8_len (S F p v : Nat) : (hd8 S F p v).length = 8 := by simp [hd8, length_numBytes]
theorem hd8_cells {S F p v : Nat} (hS : S ≤ 252) (hF : F < 256) (hp : p ≤ 65535) (hv : v ≤ 16777215) : #[Value.int .u8 ((S : Int) / 4), .int .u8 (F : Int), .int .u8 ((p : Int) / 256), .int .u8 ((p : Int) % 256), .int .u8 ((v : Int) / 65536), .int .u8 ((v : Int) / 256 % 256), .int .u8 ((v : Int) % 256), .int .u8 0] = ((hd8 S F p v).map byteV).toArray := by
  unfold hd8
  rw [numB1m, numB1m, numB1m, numB2m, numB3]
  simp only [List.cons_append, List.nil_append, List.map_cons, List.map_nil, byteV_of]
  congr 1
  simp only [List.cons.injEq, Value.int.injEq, true_and, and_true]
  refine ⟨?_, ?_, ?_, ?_, ?_, ?_, ?_, ?_⟩ <;> omega
/-- an option's first four bytes. -/
def od4 (c t n : Nat) : List UInt8 := numBytes c 2 2 ++ (numBytes t 1 1 ++ numBytes (n / 4) 1 1)
theorem od4_cells {c t n : Nat} (hc : c ≤ 65535) (ht : t ≤ 255) (hn : n ≤ 124) : #[Value.int .u8 ((c : Int) / 256), .int .u8 ((c : Int) % 256), .int .u8 (t : Int), .int .u8 ((n : Int) / 4)] = ((od4 c t n).map byteV).toArray := by
  unfold od4
  rw [numB1m, numB1m, numB2m]
  simp only [List.cons_append, List.nil_append, List.map_cons, List.map_nil, byteV_of]
  congr 1
  simp only [List.cons.injEq, Value.int.injEq, true_and, and_true]
  refine ⟨?_, ?_, ?_, ?_⟩ <;> omega
theorem bytD_hd {T : TuD} {S F p v : Nat} (hS : S = sizeD T.l) (hF : (flD T.o T.l).toNat = F) (hp : T.p = (p : Int)) (hv : T.v = (v : Int)) : bytD T = hd8 S F p v ++ (T.l.flatMap optD ++ T.D) := by
  unfold bytD hd8; rw [hF, hp, hv, ← hS]; simp only [Int.toNat_natCast, List.append_assoc]
def critV (l : List OpD) : Int := if critD l then 64 else 0
end Go.Proofs.Ytdlilokmfekndaa
