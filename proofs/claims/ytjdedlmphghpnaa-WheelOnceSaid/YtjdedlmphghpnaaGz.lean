/-
  The builtin-like Or of two numbers; a drawn region whose tail is forced behind its head, which only draws.
-/
import Derived.Test.YtjdedlmphghpnaaQd
import Derived.Deep.WholeRow
import Derived.StillTailTactics
import Derived.Sort.Grow
import Derived.Shelf.SlSortCmp.QuietGrown
namespace Go.Proofs.Ytjdedlmphghpnaa
open Go.RowKit Go.Sort
set_option maxRecDepth 100000
set_option linter.unusedVariables false
set_option linter.unusedSimpArgs false
theorem orI_cell (w : World) (b : Nat) (x y : Int) (h : w.heap[b]? = some (.cells #[.int .i64 x, .int .i64 y] 3 (0, 0))) : w.cell? ⟨b, 0, none⟩ = some (.int .i64 x) ∧ w.cell? ⟨b, 1, none⟩ = some (.int .i64 y) :=
  ⟨(cell_of_row w b 0 _ _ (0, 0) h).trans rfl, (cell_of_row w b 1 _ _ (0, 0) h).trans rfl⟩
set_option maxHeartbeats 2000000 in
theorem orI_any (w : World) (b : Nat) (x y : Int) (h : w.heap[b]? = some (.cells #[.int .i64 x, .int .i64 y] 3 (0, 0))) :
    Calls Try.prog 66 #[.slice (some ⟨b, 0, none⟩) 2 2] w fun e w' => e = .returned (.int .i64 (if x ≠ 0 then x else y)) ∧ w' = w := by
  obtain ⟨c0, c1⟩ := orI_cell w b x y h
  clear h
  have hF : Hid (∀ r, r = (if x ≠ 0 then x else y) → Ending.returned (.int .i64 r) = Ending.returned (.int .i64 (if x ≠ 0 then x else y))) := hide fun r hr => by rw [hr]
  have HX : Hid (x ≠ 0 → x = (if x ≠ 0 then x else y)) := hide fun e => by rw [if_pos e]
  have HY : Hid (x = 0 → y = (if x ≠ 0 then x else y)) := hide fun e => by rw [if_neg (by simp [e])]
  generalize (if x ≠ 0 then x else y) = R at hF HX HY ⊢
  go_enter Try.func66, Try.ntmps66
  go_wp2
  go_loopw [8] (fun i wr => ∃ k : Nat, k ≤ 2 ∧ i = .int .i64 (k : Int) ∧ wr = w ∧ Hid (1 ≤ k → x = 0) ∧ Hid (2 ≤ k → y = 0)) (fun i _ => 2 - (Go.RowKit.intOf i).toNat)
  case atStart => exact ⟨0, by omega, rfl, rfl, hide (fun h => absurd h (by omega)), hide (fun h => absurd h (by omega))⟩
  case round =>
    obtain ⟨k, hk, rfl, rfl, h1, h2⟩ := hrel
    by_cases hlt : k < 2
    · obtain ⟨z, cz, hz1, hz2⟩ : ∃ z : Int, wr.cell? ⟨b, k, none⟩ = some (.int .i64 z) ∧ Hid (z ≠ 0 → z = R) ∧ Hid (z = 0 → (1 ≤ k + 1 → x = 0) ∧ (2 ≤ k + 1 → y = 0)) := by
        match k, hlt with
        | 0, _ => exact ⟨x, c0, HX, hide fun e => ⟨fun _ => e, fun h => absurd h (by omega)⟩⟩
        | 1, _ => exact ⟨y, c1, hide fun e => HY.out (h1.out (by omega)), hide fun e => ⟨fun _ => h1.out (by omega), fun _ => e⟩⟩
      clear c0 c1 h1 h2
      obtain ⟨q, hq⟩ : ∃ q, q = (z != 0) := ⟨_, rfl⟩
      have gq := hq.symm
      have HQ := hide hq
      clear hq
      cases q
      · have HZ := hide (hz2.out (by simpa using HQ.out))
        go_wp2
        go_roundw
        case rel => exact ⟨k + 1, by omega, by go_num, trivial, hide HZ.out.1, hide HZ.out.2⟩
        case measure => simp [Go.RowKit.intOf]; omega
      · have HZ := hide (hz1.out (by simpa using HQ.out))
        go_wp2
        go_ret
        exact ⟨hF.out _ HZ.out, rfl⟩
    · obtain rfl : k = 2 := by omega
      have e1 : x = 0 := h1.out (by omega)
      have e2 : y = 0 := h2.out (by omega)
      have e3 := HY.out e1
      have HE : Hid (0 = R) := hide (by rw [← e3, e2])
      clear e1 e2 e3
      go_wp2
      go_ret
      exact ⟨hF.out _ HE.out, rfl⟩
/-- the head of a drawn region in some class of worlds, then its forced tail. -/
theorem wp_region_head_tail {P : Program} {id : Nat} {Q : Exit → Act → World → Prop} {a : Act} {w : World} {l : List Oper} (C : World → Prop) (hw : C w.drew) (n : Nat) (hm : P.follows .mixedOrders = true) (hB : Region.lexTailB .any l.toArray n = true)
    (h : wpQuiet P l.toArray C (fun a' => ∀ w', C w' → wpList P l.toArray Q (l.drop n) a' w') (l.take n) a) : (Code.region id l.toArray true).wp P Q a w := by
  simp only [Region.lexTailB, Bool.and_eq_true, decide_eq_true_eq] at hB
  obtain ⟨⟨⟨⟨hsel, hn⟩, hs⟩, hc⟩, hlex⟩ := hB
  have hn' : n < l.length := by simpa using hn
  have htl : (l.take n).length = n := by simp; omega
  have hdl : (l.drop n).length = l.toArray.size - n := by simp
  have inv0 : HeadInv .any l.toArray n (Array.replicate l.toArray.size false) :=
    ⟨by simp, fun j oj _ hl => (by rw [getD_replicate_false] at hl; cases hl), fun t _ ht => getD_in (by simpa using ht) (getD_replicate_false _ _)⟩
  have H := headQ_walk (md := .any) (g := l.toArray.size - n) hsel hs hc hn (l.take n) 0 _ a (fun j hj => by
    have hj' : j < n := by rw [htl] at hj; exact hj
    simp [hj']) (by simpa using htl) inv0 (by rw [htl]; exact hlex) h
  refine wp_region_any hm ?_
  have := any_of_headQ (Q' := Q) (g := l.toArray.size - n) (fun ls a' w' hw' hL => by
    have := wpAny_of_seq (md := .any) (Q' := Q) (l.drop n) n ls a' w' (fun j => by simp [List.getElem?_drop]) (by rw [hdl]; exact hL.1) (hL.2 w' hw')
    rwa [hdl] at this) _ _ _ w.drew hw H
  rw [htl, show n + (l.toArray.size - n) = l.toArray.size by omega] at this
  exact this
/-- worlds that only drew. -/
def DrewBy (w w' : World) : Prop := ∃ n : Nat, w' = w.drewN n
def cmpI (a b : Int) : Int := if a < b then -1 else if b < a then 1 else 0
end Go.Proofs.Ytjdedlmphghpnaa
