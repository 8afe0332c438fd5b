/-
  The walks of the order of addresses.
-/
import Derived.Test.YtbkipfmnbfjkcaaAdf
import Derived.Lib.BytesEntry
import Derived.Lib.Bytealg
namespace Go.Proofs.Ytbkipfmnbfjkcaa
open Go.RowKit
attribute [local go_sem ↓] exec_span
attribute [local go_sem] spanQ_ptr spanC_some heap_of_drew rs_arr rs_ad
set_option maxRecDepth 100000
set_option linter.unusedVariables false

theorem bytesOf_ints : ∀ (l : List UInt8), Lib.bytesOf (l.map fun x => (x.toNat : Int)) = l
  | [] => rfl
  | x :: l => by
    have ih := bytesOf_ints l
    unfold Lib.bytesOf at ih ⊢
    simp only [List.map_cons, ih]
    congr 1
    apply UInt8.toNat.inj
    simp
theorem run_bytesOf (P : Program) (w : World) (b off c : Nat) (l : List UInt8) (h : ∀ i (h : i < l.length), w.cell? ⟨b, off + i, none⟩ = some (.int .u8 (l[i].toNat : Int))) :
    (Extern.Bytes.bytesOf (.slice (some ⟨b, off, none⟩) l.length c)).run P w = .ok ⟨l.toArray⟩ w := by
  have := Lib.run_loadBytesX (P := P) w (l.map fun x => (x.toNat : Int)) ⟨b, off, none⟩ .empty (fun j x hj => by
    obtain ⟨hjl, hjv⟩ := List.getElem?_eq_some_iff.1 hj
    rw [add_none, ← hjv, h j (by simpa using hjl)]
    simp)
  rw [List.length_map, bytesOf_ints] at this
  unfold Extern.Bytes.bytesOf
  rw [this]
  congr 1
  apply ByteArray.ext
  show (#[] : Array UInt8) ++ l.toArray = l.toArray
  simp

theorem run_compare_bytes {P : Program} (w : World) (b off c b' off' c' : Nat) (l l' : List UInt8) (h : ∀ i (h : i < l.length), w.cell? ⟨b, off + i, none⟩ = some (.int .u8 (l[i].toNat : Int))) (h' : ∀ i (h : i < l'.length), w.cell? ⟨b', off' + i, none⟩ = some (.int .u8 (l'[i].toNat : Int))) :
    (Extern.BytealgCompare.compare #[.slice (some ⟨b, off, none⟩) l.length c, .slice (some ⟨b', off', none⟩) l'.length c']).run P w = .ok (.int .i64 (Lib.compareBytes l l')) w := by
  have h1 := run_bytesOf P w b off c l h
  have h2 := run_bytesOf P w b' off' c' l' h'
  change Sem.run P (do pure (goInt (Extern.BytealgCompare.cmp (← Extern.Bytes.bytesOf (.slice (some ⟨b, off, none⟩) l.length c)) (← Extern.Bytes.bytesOf (.slice (some ⟨b', off', none⟩) l'.length c'))))) w = _
  simp only [Sem.run_bind, h1, h2, Sem.run_pure, Result.andThen]
  rw [Lib.cmp_eq]
  rfl

theorem compare_lex : ∀ (a b : List UInt8), a.length = b.length → (Lib.compareBytes a b < 0 ↔ lexLt a b = true)
  | [], [], _ => by simp [Lib.compareBytes, lexLt]
  | x :: a, y :: b, h => by
    unfold Lib.compareBytes lexLt
    split
    · simp
    · split
      · simp
      · exact compare_lex a b (by simpa using h)

set_option maxHeartbeats 1000000 in
theorem compare_any (w : World) (b off c b' off' c' : Nat) (l l' : List UInt8) (h : ∀ i (h : i < l.length), w.cell? ⟨b, off + i, none⟩ = some (.int .u8 (l[i].toNat : Int))) (h' : ∀ i (h : i < l'.length), w.cell? ⟨b', off' + i, none⟩ = some (.int .u8 (l'[i].toNat : Int))) :
    Calls Try.prog 90 #[.slice (some ⟨b, off, none⟩) l.length c, .slice (some ⟨b', off', none⟩) l'.length c'] w fun e w' => e = .returned (.int .i64 (Lib.compareBytes l l')) ∧ w' = w := by
  have hrun := run_compare_bytes (P := Try.prog) w b off c b' off' c' l l' h h'
  go_enter Try.func90, Try.ntmps90
  clear h h'
  go_wp2
  rw [run_callFunc_extern Try.func92 (by kernel_rfl) (by kernel_rfl) (by kernel_rfl) (e := Extern.BytealgCompare.compare) (by kernel_rfl), hrun]
  simp only [Result.andThen]
  rw [Oper.upon_value]
  go_wp2
  go_ret
  exact ⟨rfl, rfl⟩

set_option maxHeartbeats 1000000 in
theorem less_any (w : World) (X Y : Array Value) (v v' : Bool) (l l' : List UInt8) (h : AdV X v l) (h' : AdV Y v' l') :
    Calls Try.prog 81 #[.agg X, .agg Y] w fun e w' => e = .returned (.bool (lessA v l v' l')) ∧ Below w.heap.size w w' := by
  go_enter Try.func81, Try.ntmps81
  have hx0 := h.c0
  have hy0 := h'.c0
  obtain ⟨W, hW, h1, h2, hz, hb⟩ := two_blocks w (.cells X 61) (.cells Y 61)
  have k1 := h.kind h1
  have k2 := h'.kind h2
  have hB := hide hb
  have hcmp := hide (fun q => compare_any (W.drewN q) w.heap.size 1 16 (w.heap.size + 1) 1 16 l l' (fun i hi => by rw [show (W.drewN q).cell? ⟨w.heap.size, 1 + i, none⟩ = W.cell? ⟨w.heap.size, 1 + i, none⟩ from rfl, cell_of_row W _ _ _ _ _ h1]; exact h.at i hi) (fun i hi => by rw [show (W.drewN q).cell? ⟨w.heap.size + 1, 1 + i, none⟩ = W.cell? ⟨w.heap.size + 1, 1 + i, none⟩ from rfl, cell_of_row W _ _ _ _ _ h2]; exact h'.at i hi))
  rw [h.len, h'.len] at hcmp
  have hlex := hide (compare_lex l l' (by rw [h.len, h'.len]))
  clear hz hb
  obtain ⟨C, hC⟩ : ∃ C, C = Lib.compareBytes l l' := ⟨_, rfl⟩
  rw [← hC] at hcmp hlex
  have HCC := hide hC
  clear hC
  cases v <;> cases v'
  all_goals go_wp2
  all_goals first
    | (go_ret; exact ⟨rfl, hB.out⟩)
    | skip
  all_goals
    go_quiet ((go_at_call 90; exact Calls.quiet_of_same (hcmp.out _)))
    go_wp2
    go_ret
    refine ⟨?_, below_drewN hB.out _⟩
    have hd : decide (C < 0) = lexLt l l' := by rw [Bool.eq_iff_iff, decide_eq_true_eq]; exact hlex.out
    exact congrArg (fun b => Ending.returned (.bool b)) hd

theorem lexLt_cons (a b : UInt8) (s t : List UInt8) : lexLt (a :: s) (b :: t) = if a < b then true else if b < a then false else lexLt s t := rfl
/-- the loop of 'Cmp': the bytes up to the first one that is not the same. -/
theorem lexLt_drop {l l' : List UInt8} (hl : l.length = l'.length) : ∀ (j : Nat) (hj : j ≤ l.length), (∀ k (hk : k < l.length), k < j → l[k] = l'[k]'(by omega)) → lexLt l l' = lexLt (l.drop j) (l'.drop j)
  | 0, _, _ => by simp
  | j + 1, hj, h => by
    rw [lexLt_drop hl j (by omega) (fun k hk hkj => h k hk (by omega))]
    rw [List.drop_eq_getElem_cons (show j < l.length by omega), List.drop_eq_getElem_cons (show j < l'.length by omega)]
    have := h j (by omega) (by omega)
    rw [lexLt_cons, this, if_neg (UInt8.lt_irrefl _), if_neg (UInt8.lt_irrefl _)]
theorem lexLt_at {l l' : List UInt8} (hl : l.length = l'.length) {j : Nat} (hj : j < l.length) (h : ∀ k (hk : k < l.length), k < j → l[k] = l'[k]'(by omega)) (hne : l[j] ≠ l'[j]'(by omega)) : lexLt l l' = decide ((l[j].toNat : Int) - ((l'[j]'(by omega)).toNat : Int) < 0) := by
  rw [lexLt_drop hl j (by omega) h, List.drop_eq_getElem_cons hj, List.drop_eq_getElem_cons (show j < l'.length by omega)]
  rw [lexLt_cons]
  have hne' : l[j].toNat ≠ (l'[j]'(by omega)).toNat := fun e => hne (UInt8.toNat.inj e)
  simp only [UInt8.lt_iff_toNat_lt]
  split
  · next h1 => exact (decide_eq_true (by omega)).symm
  · next h1 =>
    rw [if_pos (by omega)]
    exact (decide_eq_false (by omega)).symm
theorem lexLt_same {l l' : List UInt8} (hl : l.length = l'.length) (h : ∀ k (hk : k < l.length), l[k] = l'[k]'(by omega)) : l = l' := List.ext_getElem hl (fun k h1 h2 => h k h1)
theorem cmp_step {l l' : List UInt8} (hl : l.length = l'.length) {j : Nat} (hj : j < l.length) (h : ∀ k (hk : k < l.length), k < j → l[k] = l'[k]'(by omega)) (h0 : l[j] = l'[j]'(by omega)) : ∀ k (hk : k < l.length), k < j + 1 → l[k] = l'[k]'(by omega) := fun k hk hkj => by
  rcases Nat.lt_or_eq_of_le (Nat.le_of_lt_succ hkj) with h1 | h1
  · exact h k hk h1
  · subst h1; exact h0

/-- what a comparison's number says: below 0 just if one stands ahead, 0 just if they are one. -/
def CmpIs (n : Int) (v : Bool) (l : List UInt8) (v' : Bool) (l' : List UInt8) : Prop := decide (n < 0) = lessA v l v' l' ∧ (n = 0 ↔ v = v' ∧ l = l')

end Go.Proofs.Ytbkipfmnbfjkcaa
