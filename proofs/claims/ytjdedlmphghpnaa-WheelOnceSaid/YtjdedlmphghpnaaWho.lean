/-
  What is due soon up to a time, taken tick by tick: soon.turn.
-/
import Derived.Test.YtjdedlmphghpnaaWhn
namespace Go.Proofs.Ytjdedlmphghpnaa
open Go.RowKit
set_option maxRecDepth 100000
set_option linter.unusedVariables false
set_option linter.unusedSimpArgs false
attribute [local go_sem ↓] exec_span exec_put exec_build heap_alloc_new heap_old
attribute [local go_sem] spanQ_ptr spanC_some heap_of_drew heap_of_drewN putAt_ptr putOk_ptr oldOk_some World.setRow_alloc_new rs_Due

def resN (f : Int) (i : Nat) : Nat := ((f + i + 1) % 64).toNat
theorem resN_lt (f : Int) (i : Nat) : resN f i < 64 := by unfold resN; omega
theorem resN_eq (f : Int) (i : Nat) : ((f + i + 1) % 64) = (resN f i : Int) := by unfold resN; omega
theorem resN_inj {f : Int} {i j : Nat} (hi : i < 64) (hj : j < 64) (h : resN f i = resN f j) : i = j := by unfold resN at h; omega
def turnS (S : List Value) (f : Int) : Nat → List Value
  | 0 => S
  | k + 1 => (turnS S f k).set (resN f k) (.slice none 0 0)
theorem turnS_len (S : List Value) (f : Int) : ∀ k, (turnS S f k).length = S.length
  | 0 => rfl
  | k + 1 => by unfold turnS; rw [List.length_set, turnS_len S f k]
theorem turnS_old (S : List Value) (f : Int) (r : Nat) : ∀ k, (∀ i, i < k → resN f i ≠ r) → (turnS S f k)[r]? = S[r]?
  | 0, _ => rfl
  | k + 1, h => by
    unfold turnS
    rw [List.getElem?_set_ne (h k (by omega)), turnS_old S f r k (fun i hi => h i (by omega))]
theorem turnS_new (S : List Value) (f : Int) (r : Nat) (hr : r < S.length) : ∀ k, (∃ i, i < k ∧ resN f i = r) → (turnS S f k)[r]? = some (.slice none 0 0)
  | 0, h => by obtain ⟨i, hi, _⟩ := h; omega
  | k + 1, h => by
    unfold turnS
    by_cases e : resN f k = r
    · subst e
      rw [List.getElem?_set_self (by rw [turnS_len]; exact hr)]
    · rw [List.getElem?_set_ne e]
      obtain ⟨i, hi, h2⟩ := h
      exact turnS_new S f r hr k ⟨i, by rcases Nat.lt_or_ge i k with h' | h'; · exact h'
                                        · have : i = k := by omega
                                          subst this; exact absurd h2 e, h2⟩
/-- what is due at some ticks, one behind the other. -/
def turnLw (SL : Nat → List Int) (f : Int) : Nat → List (Int × Int)
  | 0 => []
  | k + 1 => turnLw SL f k ++ (SL (resN f k)).map (fun id => (id, f + k + 1))
theorem run_minZ {P : Program} (ats : Array TypeId) (t : TypeId) (x y : Int) (w : World) : (Builtin.min_ ats t #[.int .i64 x, .int .i64 y]).run P w = .ok (.int .i64 (min x y)) w := by
  rcases Int.lt_trichotomy x y with h | h | h
  · have h2 : ¬ y < x := by omega
    simp [Builtin.min_, Builtin.min2, h, h2]; omega
  · subst h
    simp [Builtin.min_, Builtin.min2]
  · have h2 : ¬ x < y := by omega
    simp [Builtin.min_, Builtin.min2, h, h2]; omega
theorem cell_id {w : World} {base n c : Nat} {A : Option Addr} {l : List Int} (h : w.ownsRow base 2 1 (.slice A n c) n (l.map izV)) {j : Nat} {q : Int} (hj : l[j]? = some q) : ∃ g, A = some ⟨g, 0, none⟩ ∧ g < w.heap.size ∧ w.cell? ⟨g, j, none⟩ = some (.int .i64 q) := by
  have h1 : (l.map izV)[j]? = some (.int .i64 q) := by rw [List.getElem?_map, hj]; rfl
  rcases h.2 with ⟨e, rfl⟩ | ⟨g, cap, cur, e, hb, hg, hnc, hm, hsz, ht⟩
  · have := h.1; simp at this
    subst this; simp at hj
  · injection e with e1 e2 e3
    refine ⟨g, e1, (Array.getElem?_eq_some_iff.1 hg).1, ?_⟩
    rw [cell_of_row w g _ _ _ (0, 0) hg]
    rw [← ht, List.getElem?_take] at h1
    split at h1
    · simpa using h1
    · cases h1
theorem TouchW.rfl' (w : World) (p : Nat) (o : Option Nat) : TouchW w w p o o := ⟨rfl, rfl, rfl, Nat.le_refl _, fun _ _ _ _ => rfl, .inl rfl⟩
/-- a row of one's own grows, or a new block comes. -/
theorem TouchW.grown {w w1 w2 : World} {p : Nat} {row : Option Nat} (h : TouchW w w1 p none none) (hg : w1.grownBy w2 row) (hr : ∀ k, row = some k → w.heap.size ≤ k) : TouchW w w2 p none none :=
  ⟨hg.os.trans h.os, hg.tape.trans h.tape, hg.output.trans h.output, Nat.le_trans h.size hg.size, fun k hk h1 h2 => (hg.block k (Nat.lt_of_lt_of_le hk h.size) (fun e => by have := hr k e.symm; omega)).trans (h.block k hk h1 h2), .inl rfl⟩
theorem TouchW.row {w w1 : World} {p base e k n : Nat} {v : Value} {xs : List Value} (h : TouchW w w1 p none none) (ho : w.ownsRow base e k v n xs) (hne : v.ownBlock ≠ some p) : w1.ownsRow base e k v n xs := by
  refine ho.kept (w' := w1) (row := some p) ⟨h.os, h.tape, h.output, h.size, fun j hj h1 => h.block j hj (fun e => h1 (by rw [e])) (by simp)⟩ (.inr hne)
theorem grown_cell {w : World} {p i : Nat} {cs : List Value} {t : TypeId} (hp : w.heap[p]? = some (.cells cs.toArray t (0, 0))) (v : Value) : w.grownBy (w.setCell ⟨p, i, none⟩ v) (some p) :=
  ⟨by rw [setCell_eq_setRow w p _ _ _ _ _ hp]; rfl, by rw [setCell_eq_setRow w p _ _ _ _ _ hp]; rfl, by rw [setCell_eq_setRow w p _ _ _ _ _ hp]; rfl, by rw [setCell_eq_setRow w p _ _ _ _ _ hp]; simp, fun k hk hk2 => setCell_other' hp v (fun e => hk2 (by rw [e]))⟩
theorem TouchW.cell {w w1 : World} {p i : Nat} {cs : List Value} {t : TypeId} (h : TouchW w w1 p none none) (hp : w1.heap[p]? = some (.cells cs.toArray t (0, 0))) (v : Value) : TouchW w (w1.setCell ⟨p, i, none⟩ v) p none none := by
  have hg := grown_cell (i := i) hp v
  exact ⟨hg.os.trans h.os, hg.tape.trans h.tape, hg.output.trans h.output, Nat.le_trans h.size hg.size, fun k hk h1 h2 => (hg.block k (Nat.lt_of_lt_of_le hk h.size) (by simpa using h1)).trans (h.block k hk h1 h2), .inl rfl⟩
theorem ne_wheel {w : World} {p base n : Nat} {cs : List Value} {v : Value} {xs : List Value} (hp : w.heap[p]? = some (.cells cs.toArray 65 (0, 0))) (ho : w.ownsRow base 2 1 v n xs) : v.ownBlock ≠ some p := fun e => by
  rcases ho.2 with ⟨e', h0⟩ | ⟨g, cap, cur, e', hb, hg, -⟩
  · rw [e'] at e; simp [Value.ownBlock] at e
  · rw [e'] at e
    simp only [Value.ownBlock, Option.some.injEq] at e
    subst e
    rw [hp] at hg; injection hg with hg; injection hg with _ hg; exact absurd hg (by decide)
/-- a row that lies above a block that is written into. -/
theorem row_high {w w' : World} {base e k n p : Nat} {v : Value} {xs : List Value} (h : w.ownsRow base e k v n xs) (hg : w.grownBy w' (some p)) (hp : p < base) : w'.ownsRow base e k v n xs :=
  h.kept hg (by
    cases hv : v.ownBlock with
    | none => exact .inl rfl
    | some j => exact .inr (fun e => by injection e with e; have := (h.lt j hv).1; omega))
set_option maxHeartbeats 8000000 in
theorem turnS_any (w : World) (p : Nat) (now : Int) (mv : Value) (S : List Value) (lv : Value) (SL : Nat → List Int) (f to : Int) (m : Nat)
    (hp : w.heap[p]? = some (.cells (whL now mv S lv).toArray 65 (0, 0))) (hS : S.length = 64)
    (ho : ∀ r, r < 64 → ∃ v, S[r]? = some v ∧ w.ownsRow 0 2 1 v (SL r).length ((SL r).map izV)) (hl : ∀ k, k ≤ m → (turnLw SL f k).length ≤ 100000)
    (hf : 0 ≤ f ∧ f ≤ 1099511627776) (hto : 0 ≤ to ∧ to ≤ 1099511627776) (hm : m ≤ 64 ∧ ∀ k : Nat, f + k + 1 ≤ min to (f + 64) ↔ k < m) :
    Calls Try.prog 32 #[.pointer (some ⟨p, 2, none⟩), .int .i64 f, .int .i64 to] w fun e w' => ∃ t, e = .returned t ∧ w'.ownsRow w.heap.size 43 2 t (turnLw SL f m).length (rowD (turnLw SL f m)) ∧
      w'.heap[p]? = some (.cells (whL now mv (turnS S f m) lv).toArray 65 (0, 0)) ∧ TouchW w w' p none none := by
  obtain ⟨i0, hi0, hz0, hz1, hz2⟩ := info_parts info_due
  have hpl : p < w.heap.size := (Array.getElem?_eq_some_iff.1 hp).1
  have HM := hide hm
  have HLN := hide hl
  have HO := hide ho
  have HS := hide hS
  have hmn := fun ats t x y w => run_minZ (P := Try.prog) ats t x y w
  have HP := hide hp
  have HPL := hide hpl
  clear hm hl ho hS hp hpl
  go_enter Try.func32, Try.ntmps32
  go_wp2
  go_loopw [7, 8] (fun sl sa wr => ∃ k : Nat, k ≤ m ∧ sa = .int .i64 (f + k + 1) ∧ Hid (wr.ownsRow w.heap.size 43 2 sl (turnLw SL f k).length (rowD (turnLw SL f k))) ∧
    Hid (wr.heap[p]? = some (.cells (whL now mv (turnS S f k) lv).toArray 65 (0, 0))) ∧ Hid (TouchW w wr p none none)) (fun _ sa _ => ((f + m + 1) - Go.RowKit.intOf sa).toNat)
  case atStart => exact ⟨0, Nat.zero_le _, by rw [Int.natCast_zero, Int.add_zero], hide (World.ownsRow_nil _ _ _ _), HP, hide (TouchW.rfl' _ _ _)⟩
  case round =>
    obtain ⟨k, hk, rfl, HR, HPk, HT⟩ := hrel
    obtain ⟨M, hM⟩ : ∃ M, M = min to (f + 64) := ⟨_, rfl⟩
    have hmn' : ∀ ats t w, (Builtin.min_ ats t #[.int .i64 to, .int .i64 (f + 64)]).run Try.prog w = .ok (.int .i64 M) w := fun ats t w => by rw [hM]; exact hmn ats t to (f + 64) w
    have HMk : Hid (f + k + 1 ≤ M ↔ k < m) := hide (by rw [hM]; exact HM.out.2 k)
    clear hmn hM
    obtain ⟨a, ha⟩ : ∃ a : Int, a = f + k + 1 := ⟨_, rfl⟩
    have ha1 : 1 ≤ a ∧ a ≤ 1099511627900 := by have := HM.out.1; omega
    have HA := hide ha
    rw [← ha] at HMk ⊢
    clear ha
    obtain ⟨wo, hwo⟩ : ∃ wo, wo = wr := ⟨_, rfl⟩
    subst hwo
    by_cases hlt : k < m
    · have hle : a ≤ M := HMk.out.2 hlt
      obtain ⟨r, hr⟩ : ∃ r, r = resN f k := ⟨_, rfl⟩
      have hr64 : r < 64 := by rw [hr]; exact resN_lt f k
      have hrem : a.tmod 64 = (r : Int) := by rw [Int.tmod_eq_emod_of_nonneg (by omega), HA.out, resN_eq, hr]
      obtain ⟨v, hv, hov⟩ := HO.out r hr64
      have hne := ne_wheel HP.out hov
      have how := HT.out.row hov hne
      obtain ⟨A, n, c, rfl, hn, hnc, hc63⟩ : ∃ A n c, v = .slice A n c ∧ n = (SL r).length ∧ n ≤ c ∧ c ≤ 9223372036854775807 := by
        rcases hov.2 with ⟨e, h0⟩ | ⟨g, cap, cur, e, _, _, h1, h2, _⟩
        · exact ⟨none, 0, 0, e, by omega, by omega, by omega⟩
        · exact ⟨_, _, _, e, rfl, h1, by unfold maxLen at h2; omega⟩
      rw [← hn] at how
      have HN := hide hn
      have hold : (turnS S f k)[r]? = some (.slice A n c) := by
        rw [turnS_old S f r k (fun i hi e => by have := HM.out.1; have := resN_inj (f := f) (i := i) (j := k) (by omega) (by omega) (by rw [e, hr]); omega)]; exact hv
      have HCell : Hid (∀ w2 : World, w2.heap[p]? = some (.cells (whL now mv (turnS S f k) lv).toArray 65 (0, 0)) → w2.cell? ⟨p, 2 + r, none⟩ = some (.slice A n c) ∧ w2.frozen? ⟨p, 2 + r, none⟩ = false) := hide fun w2 h2 =>
        ⟨(cell_of_row w2 p (2 + r) _ _ (0, 0) h2).trans (by rw [List.getElem?_toArray, whL_soon (by rw [turnS_len, HS.out]; exact hr64)]; exact hold), by simp [World.frozen?, h2]⟩
      have cc := (HCell.out wo HPk.out).1
      have HID : Hid (∀ w2 : World, TouchW w w2 p none none → ∀ j q, (SL r)[j]? = some q → ∃ g, A = some ⟨g, 0, none⟩ ∧ w2.cell? ⟨g, j, none⟩ = some (.int .i64 q)) := hide fun w2 ht j q hj => by
        have hov' := ht.row hov hne
        rw [← HN.out] at hov'
        obtain ⟨g, h1, -, h2⟩ := cell_id hov' hj
        exact ⟨g, h1, h2⟩
      have hr2 : (r : Int) < 64 := by omega
      have HRr := hide hr
      have hn100 : n ≤ 100000 := by
        have := HLN.out (k + 1) (by omega)
        unfold turnLw at this
        rw [List.length_append, List.length_map, ← hr, ← hn] at this
        omega
      clear hv hov hne how hn hold hr
      go_wp2
      go_loopw [7, 28] (fun sl si w2 => ∃ j : Nat, j ≤ n ∧ si = .int .i64 (j : Int) ∧ Hid (w2.ownsRow w.heap.size 43 2 sl ((turnLw SL f k).length + j) (rowD (turnLw SL f k ++ ((SL r).take j).map (fun id => (id, a))))) ∧
        Hid (w2.heap[p]? = some (.cells (whL now mv (turnS S f k) lv).toArray 65 (0, 0))) ∧ Hid (TouchW w w2 p none none)) (fun _ si _ => n - (Go.RowKit.intOf si).toNat)
      case atStart => exact ⟨0, Nat.zero_le _, rfl, hide (by simpa using HR.out), HPk, HT⟩
      case round =>
        obtain ⟨j, hj, rfl, HR2, HP2, HT2⟩ := hrel
        by_cases hjn : j < n
        · obtain ⟨q, hq⟩ : ∃ q, (SL r)[j]? = some q := ⟨_, List.getElem?_eq_getElem (by have := HN.out; omega)⟩
          obtain ⟨g, rfl, cq⟩ := HID.out wr HT2.out j q hq
          obtain ⟨W2, hw2, r2, z2, b2⟩ := alloc_nm wr (.cells #[.int .i64 q, .int .i64 a] 43)
          have hsz2 : w.heap.size ≤ wr.heap.size := HT2.out.size
          have hln : (turnLw SL f k).length + j ≤ 100000 := by
            have := HLN.out (k + 1) (by omega)
            unfold turnLw at this
            rw [List.length_append, List.length_map, ← HRr.out, ← HN.out] at this
            omega
          have hown2 := row_bel HR2.out b2
          obtain ⟨v', w4, hap, h2, h3, h4⟩ := run_app_two W2 w.heap.size 34 43 34 i0 _ 16 Try.underlying34 hi0 hz0 hz1 hz2 rfl _ _ _ hown2 (some ⟨wr.heap.size, 0, none⟩) 1 1 [.int .i64 q, .int .i64 a] rfl
            (fun _ => ⟨wr.heap.size, 0, rfl, fun n u hu => by rw [cell_of_row W2 _ (0 + n) _ _ (0, 0) r2, Nat.zero_add]; simpa using hu⟩) (fun e => by cases e) (fun u hu => by simp at hu; rcases hu with rfl | rfl <;> rfl) (by unfold maxLen; omega) (by omega) (by have := b2.size; omega)
          have HR4 : Hid (w4.ownsRow w.heap.size 43 2 v' ((turnLw SL f k).length + (j + 1)) (rowD (turnLw SL f k ++ ((SL r).take (j + 1)).map (fun id => (id, a))))) := hide (by
            rw [List.take_add_one, hq, Option.toList_some, List.map_append, ← List.append_assoc, rowD_app]
            exact h2)
          have hpl4 : p < wr.heap.size := Nat.lt_of_lt_of_le HPL.out hsz2
          have HP4 : Hid (w4.heap[p]? = some (.cells (whL now mv (turnS S f k) lv).toArray 65 (0, 0))) := hide ((h3.block p (by have := b2.size; omega) (fun e => by have := (hown2.lt p e.symm).1; have := HPL.out; omega)).trans ((b2.block p hpl4).trans HP2.out))
          have HT4 : Hid (TouchW w w4 p none none) := hide ((HT2.out.grown (grown_ofB b2 none) (fun k hk => by cases hk)).grown h3 (fun k hk => (hown2.lt k hk).1))
          clear hq r2 z2 b2 hsz2 hln hown2 h2 h3 h4 hpl4 HP2 HR2 HT2
          go_wp2_with (first | (at_builtin; refine wpList_append_eq rfl _ _ 34 34 rfl _ _ rfl rfl hap ?_) | fail)
          go_roundw
          case rel => exact ⟨j + 1, by omega, by go_num, HR4, HP4, HT4⟩
          case measure => simp [Go.RowKit.intOf]; omega
        · obtain rfl : j = n := by omega
          obtain ⟨cp, cf⟩ := HCell.out wr HP2.out
          have HR5 : Hid ((wr.setCell ⟨p, 2 + r, none⟩ (.slice none 0 0)).ownsRow w.heap.size 43 2 _ (turnLw SL f (k + 1)).length (rowD (turnLw SL f (k + 1)))) := hide (by
            have h0 := HR2.out
            have e1 : turnLw SL f (k + 1) = turnLw SL f k ++ (SL r).map (fun id => (id, a)) := by rw [turnLw, ← HRr.out, HA.out]
            rw [e1, List.length_append, List.length_map, ← HN.out]
            rw [List.take_of_length_le (by have := HN.out; omega)] at h0
            exact row_high h0 (grown_cell HP2.out _) HPL.out)
          have HP5 : Hid ((wr.setCell ⟨p, 2 + r, none⟩ (.slice none 0 0)).heap[p]? = some (.cells (whL now mv (turnS S f (k + 1)) lv).toArray 65 (0, 0))) := hide (by
            rw [setCell_block HP2.out, whL_set (by rw [turnS_len, HS.out]; exact hr64), HRr.out]; rfl)
          have HT5 := hide (HT2.out.cell (i := 2 + r) HP2.out (.slice none 0 0))
          clear HP2 HR2 HT2
          go_wp2
          go_roundw
          case rel => exact ⟨k + 1, by omega, by rw [show a + 1 = f + ((k + 1 : Nat) : Int) + 1 by have := HA.out; omega], HR5, HP5, HT5⟩
          case measure => simp [Go.RowKit.intOf]; have := HA.out; omega
    · have hle : ¬ a ≤ M := fun h => hlt (HMk.out.1 h)
      obtain rfl : k = m := by omega
      go_wp2
      go_ret
      exact ⟨_, rfl, HR.out, HPk.out, HT.out⟩
end Go.Proofs.Ytjdedlmphghpnaa
