/-
  The walk of segment.behind.
-/
import Derived.Test.YtdlilokmfekndaaKe
namespace Go.Proofs.Ytdlilokmfekndaa
open Go.RowKit
attribute [local go_sem ↓] exec_span exec_put exec_build heap_alloc_new heap_old
attribute [local go_sem] spanQ_ptr spanC_some heap_of_drew heap_of_drewN rs_arr rs_ad rs_ip rs_rip rs_seg putAt_ptr putOk_ptr oldOk_some World.setRow_alloc_new
set_option maxRecDepth 100000
set_option linter.unusedVariables false
set_option linter.unusedSimpArgs false

theorem Gave.nilled (w w' : World) (A : Option Addr) (c : Nat) (hn : A = none → c = 0) (hb : ∀ x, A = some x → w.heap.size ≤ x.block) : Gave w w' A c [] := ⟨Byt.nil _ _ _, Nat.zero_le _, hn, hb⟩
def Behind (w : World) (b : List UInt8) (n hd : Nat) (e : Ending) (w' : World) : Prop := ∃ A1 c1 A2 c2, e = .returned (.tuple #[.slice A1 (hd - n) c1, .slice A2 (b.length - hd) c2]) ∧ Gave w w' A1 c1 ((b.drop n).take (hd - n)) ∧ Gave w w' A2 c2 (b.drop hd) ∧ Below w.heap.size w w'

set_option maxHeartbeats 4000000 in
theorem behindE_any (w : World) (A : Option Addr) (c : Nat) (b : List UInt8) (hby : Byt w w.heap.size A b) (hlc : b.length ≤ c) (hn : b.length ≤ 140737488355328) (h0 : 0 < b.length) :
    Calls Try.prog 48 #[.slice A b.length c, .int .i64 (b.length : Int), .int .i64 (b.length : Int)] w fun e w' => Behind w b b.length b.length e w' := by
  obtain ⟨bk, off, rfl, hbk, hcell⟩ := hby (by omega)
  have HF : Hid (∀ A1 c1 A2 c2 w', Gave w w' A1 c1 [] → Gave w w' A2 c2 [] → Below w.heap.size w w' → Behind w b b.length b.length (.returned (.tuple #[.slice A1 0 c1, .slice A2 0 c2])) w') := hide (fun A1 c1 A2 c2 w' g1 g2 hb => ⟨A1, c1, A2, c2, by rw [Nat.sub_self], by rw [Nat.sub_self]; exact g1, by rw [List.drop_length]; exact g2, hb⟩)
  generalize hG : Behind w b b.length b.length = G at HF ⊢
  clear hG
  obtain ⟨n, hnn⟩ : ∃ n, n = b.length := ⟨_, rfl⟩
  rw [← hnn] at hlc hn h0 ⊢
  clear hnn hcell
  have i1 : (0 : Int) ≤ (n : Int) := by omega
  have i3 : (n : Int) ≤ (c : Int) := by omega
  have hsub : IntKind.i64.wrap ((n : Int) - (n : Int)) = 0 := by rw [Int.sub_self]; rfl
  have KC := hide (fun (A' : Option Addr) (c' : Nat) => clone_any w w.heap.size A' [] c' (by simp) (Byt.nil _ _ _) (Nat.le_refl _))
  rcases Classical.em (n = c) with rfl | hnc
  all_goals (
    go_enter Try.func48, Try.ntmps48
    go_wp2_with fail
    refine (KC.out _ _).mono ?_
    rintro e w1 ⟨v1, rfl, o1, b1⟩
    have HB := hide b1
    rcases o1.2 with ⟨rfl, h0'⟩ | ⟨g, cap, cur, e, hbg, -⟩
    · have HG := hide (Gave.nilled w w1.drew none 0 (fun _ => rfl) (fun x hx => by cases hx))
      clear o1 b1 KC
      dsimp only
      go_wp2
      go_region_held3 (fun _ => True) (first | trivial | fail) (fail)
      all_goals (
        go_wp2
        exact HF.out _ _ _ _ _ HG.out HG.out HB.out.drew)
    · have e2 : v1 = .slice (some ⟨g, 0, none⟩) 0 cap := e
      subst e2
      have HG := hide (Gave.nilled w w1.drew (some ⟨g, 0, none⟩) 0 (fun _ => rfl) (fun x hx => by cases hx; exact hbg))
      have i4 : (0 : Int) ≤ (cap : Int) := by omega
      clear o1 b1 KC e hbg
      by_cases hc0 : cap = 0
      · subst hc0
        dsimp only
        go_wp2
        go_region_held3 (fun _ => True) (first | trivial | fail) (fail)
        all_goals (
          go_wp2
          exact HF.out _ _ _ _ _ HG.out HG.out HB.out.drew)
      · dsimp only
        go_wp2
        go_region_held3 (fun _ => True) (first | trivial | fail) (fail)
        all_goals (
          go_wp2
          exact HF.out _ _ _ _ _ HG.out HG.out HB.out.drew))

set_option maxHeartbeats 4000000 in
theorem behindN_any (w : World) (A : Option Addr) (c : Nat) (b : List UInt8) (n hd : Nat) (hby : Byt w w.heap.size A b) (hlc : b.length ≤ c) (hn : b.length ≤ 140737488355328) (hnb : n < b.length) (hnh : n ≤ hd) (hhl : hd ≤ b.length) :
    Calls Try.prog 48 #[.slice A b.length c, .int .i64 (n : Int), .int .i64 (hd : Int)] w fun e w' => Behind w b n hd e w' := by
  obtain ⟨bk, off, rfl, hbk, hcell⟩ := hby (by omega)
  have hp := (⟨bk, off, rfl, hbk, hcell⟩ : ∃ b' o', (some (⟨bk, off, none⟩ : Addr)) = some ⟨b', o', none⟩ ∧ b' < w.heap.size ∧ ∀ i (h : i < b.length), w.cell? ⟨b', o' + i, none⟩ = some (.int .u8 (b[i].toNat : Int)))
  have hd0 : Byt w w.heap.size (some ⟨bk, off + n, none⟩) (b.drop n) := by
    have := Byt.part (show Byt w w.heap.size (some ⟨bk, off, none⟩) b from fun _ => hp) n (b.length - n) (by omega)
    rw [List.take_of_length_le (by rw [List.length_drop]; omega)] at this
    exact this
  have KC := clone_any w w.heap.size (some ⟨bk, off + n, none⟩) (b.drop n) (c - n) (by rw [List.length_drop]; omega) hd0 (Nat.le_refl _)
  obtain ⟨N, hN⟩ : ∃ N, N = b.length - n := ⟨_, rfl⟩
  have hbl : (b.drop n).length = N := by rw [List.length_drop, hN]
  rw [hbl] at KC
  obtain ⟨k, hk⟩ : ∃ k, k = hd - n := ⟨_, rfl⟩
  have hkN : k ≤ N := by omega
  have e1 : (hd : Int) = (n : Int) + (k : Int) := by omega
  have HF : Hid (∀ A1 c1 A2 c2 w', Gave w w' A1 c1 ((b.drop n).take k) → Gave w w' A2 c2 ((b.drop n).drop k) → Below w.heap.size w w' → Behind w b n hd (.returned (.tuple #[.slice A1 k c1, .slice A2 (N - k) c2])) w') := hide (fun A1 c1 A2 c2 w' g1 g2 hb => ⟨A1, c1, A2, c2, by rw [hN, hk, show b.length - hd = b.length - n - (hd - n) by omega], by rw [← hk]; exact g1, by rw [List.drop_drop] at g2; rw [show hd = n + k by omega]; exact g2, hb⟩)
  generalize hG : Behind w b n hd = G at HF ⊢
  clear hG
  rw [e1]
  obtain ⟨R, hR⟩ : ∃ R, R = b.drop n := ⟨_, rfl⟩
  rw [← hR] at HF KC hbl
  have hw1 : IntKind.i64.wrap ((n : Int) + (k : Int) - (n : Int)) = (k : Int) := by rw [show (n : Int) + (k : Int) - (n : Int) = (k : Int) by omega]; exact IntWalk.i64_in _ (by omega)
  have hnc : ¬ (n = c) := by omega
  have i1 : (0 : Int) ≤ (n : Int) := by omega
  have i2 : (n : Int) ≤ (b.length : Int) := by omega
  have i3 : (n : Int) ≤ (c : Int) := by omega
  have hdl : (b.length : Int) - (n : Int) = (N : Int) := by omega
  have hN0 : 0 < N := by omega
  have HKC := hide KC
  have HBL := hide hbl
  have hdn : b.length - n = N := hN.symm
  clear KC hd0 hp hcell hby e1 hk hN hnh hhl hR hbl
  go_enter Try.func48, Try.ntmps48
  go_wp2_with fail
  refine HKC.out.mono ?_
  rintro e w1 ⟨v1, rfl, o1, b1⟩
  obtain ⟨g, cap, hv1, hlc1, hg1, hgl⟩ := o1.pos (by rw [HBL.out]; exact hN0)
  rw [HBL.out] at hv1 hlc1
  subst hv1
  obtain ⟨A', c', e', -, hby1, -, -⟩ := o1.shape
  rw [HBL.out] at e'
  cases e'
  have i4 : (0 : Int) ≤ (k : Int) := by omega
  have i5 : (k : Int) ≤ (N : Int) := by omega
  have i6 : (k : Int) ≤ (cap : Int) := by omega
  have i7 : (N : Int) ≤ (cap : Int) := by omega
  have i8 : (0 : Int) ≤ (N : Int) := by omega
  have HB := hide b1
  by_cases hkN2 : k = N
  · subst hkN2
    have G1 : Hid (Gave w w1.drew (some ⟨g, 0, none⟩) k (R.take k)) := hide ⟨by rw [List.take_of_length_le (by rw [HBL.out]; exact Nat.le_refl _)]; exact hby1, by rw [List.length_take]; omega, (fun h => by cases h), (fun x hx => by cases hx; exact hg1)⟩
    have G2 : Hid (∀ A2, (∀ x, A2 = some x → w.heap.size ≤ x.block) → Gave w w1.drew A2 0 (R.drop k)) := hide (fun A2 h => by rw [List.drop_of_length_le (by rw [HBL.out]; exact Nat.le_refl _)]; exact Gave.nilled _ _ _ _ (fun _ => rfl) h)
    clear o1 b1 hby1 HKC
    dsimp only
    go_wp2
    go_region_held3 (fun _ => True) (first | trivial | fail) (fail)
    all_goals (
      go_wp2
      have hf := HF.out _ _ _ _ _ G1.out (G2.out (some ⟨g, 0, none⟩) (fun x hx => by cases hx; exact hg1)) HB.out.drew
      rw [Nat.sub_self] at hf
      exact hf)
  · have hlt : k < N := by omega
    have hs1 : (N : Int) - (k : Int) = ((N - k : Nat) : Int) := by omega
    have hk2 : ¬ (N = k) := by omega
    have G1 : Hid (Gave w w1.drew (some ⟨g, 0, none⟩) k (R.take k)) := hide ⟨hby1.front k, by rw [List.length_take]; omega, (fun h => by cases h), (fun x hx => by cases hx; exact hg1)⟩
    have G2 : Hid (Gave w w1.drew (some ⟨g, 0 + k, none⟩) (N - k) (R.drop k)) := hide ⟨hby1.cut k, by rw [List.length_drop, HBL.out]; exact Nat.le_refl _, (fun h => by cases h), (fun x hx => by cases hx; exact hg1)⟩
    rw [Nat.zero_add] at G2
    clear o1 b1 hby1 HKC hg1
    dsimp only
    by_cases hk0 : k = 0
    · subst hk0
      go_wp2
      go_region_held3 (fun _ => True) (first | trivial | fail) (fail)
      all_goals (
        go_wp2
        exact HF.out _ _ _ _ _ G1.out G2.out HB.out.drew)
    · go_wp2
      go_region_held3 (fun _ => True) (first | trivial | fail) (fail)
      all_goals (
        go_wp2
        exact HF.out _ _ _ _ _ G1.out G2.out HB.out.drew)
/-- behind, whatever is left behind the numbers. -/
theorem behindS_any (w : World) (A : Option Addr) (c : Nat) (b : List UInt8) (n hd : Nat) (hby : Byt w w.heap.size A b) (hlc : b.length ≤ c) (hn : b.length ≤ 140737488355328) (hnh : n ≤ hd) (hhl : hd ≤ b.length) (h0 : 0 < b.length) :
    Calls Try.prog 48 #[.slice A b.length c, .int .i64 (n : Int), .int .i64 (hd : Int)] w fun e w' => Behind w b n hd e w' := by
  by_cases h : n < b.length
  · exact behindN_any w A c b n hd hby hlc hn h hnh hhl
  · obtain rfl : n = b.length := by omega
    obtain rfl : hd = b.length := by omega
    exact behindE_any w A c b hby hlc hn h0
end Go.Proofs.Ytdlilokmfekndaa
