/-
  The walks of segment.sum, head (of UDP), behind.
-/
import Derived.Test.YtdlilokmfekndaaMka
namespace Go.Proofs.Ytdlilokmfekndaa
open Go.RowKit
attribute [local go_sem ↓] exec_span exec_put exec_build heap_alloc_new heap_old
attribute [local go_sem] spanQ_ptr spanC_some heap_of_drew heap_of_drewN rs_arr rs_ad rs_ip rs_rip rs_seg putAt_ptr putOk_ptr oldOk_some World.setRow_alloc_new
set_option maxRecDepth 100000
set_option linter.unusedVariables false
set_option linter.unusedSimpArgs false

/-- the packet with other data. -/
def datH (h : Ip) (ad : Option Addr) (nd cd : Nat) : Ip := { h with ad := ad, nd := nd, cd := cd }
theorem sum_split (h : Ip) (b : List UInt8) (k : Nat) (hp : h.p = 17) : sumV h b k = if 65535 - addS (addS (pseS { h with nd := b.length }) (b.take k)) (b.drop (k + 2)) = 0 then 65535 else 65535 - addS (addS (pseS { h with nd := b.length }) (b.take k)) (b.drop (k + 2)) := by
  unfold sumV
  simp [hp]

theorem Byt.part {w : World} {B b off : Nat} {l : List UInt8} (h : Byt w B (some ⟨b, off, none⟩) l) (k m : Nat) (hk : k + m ≤ l.length) : Byt w B (some ⟨b, off + k, none⟩) ((l.drop k).take m) := fun h0 => by
  rw [List.length_take, List.length_drop] at h0
  obtain ⟨b', off', e, hb, hc⟩ := h (by omega)
  cases e
  refine ⟨b, off + k, rfl, hb, fun i hi => ?_⟩
  rw [List.length_take, List.length_drop] at hi
  rw [Nat.add_assoc]
  rw [hc (k + i) (by omega)]
  simp

set_option maxHeartbeats 1600000 in
theorem sumS_any (w : World) (X : Array Value) (h : Ip) (x : IpV X h) (A : Option Addr) (c : Nat) (b : List UInt8) (hb : Byt w w.heap.size A b) (hlc : b.length ≤ c) (hn : b.length ≤ 140737488355328) (hat : (if h.p = 6 then 18 else 8) ≤ b.length) :
    Calls Try.prog 47 #[.agg X, .slice A b.length c] w fun e w' => e = .returned (.int .u16 ((sumV h b (if h.p = 6 then 16 else 6) : Nat) : Int)) ∧ Below w.heap.size w w' := by
  have hxs := x.size
  have hxr := x.x0
  have hxo := x.one
  obtain ⟨W, hW, h1, hz, hbW⟩ := one_block w (.cells X 48)
  obtain ⟨k, hk⟩ : ∃ k : Nat, k = if h.p = 6 then 16 else 6 := ⟨_, rfl⟩
  have hki : (if h.p = 6 then (16 : Int) else 6) = (k : Int) := by rw [hk]; split <;> rfl
  have hk2 : k + 2 ≤ b.length := by rw [hk]; split at hat <;> simp_all
  have hpk : (if h.p = 6 then 16 else 6 : Nat) = k := hk.symm
  rw [hpk]
  obtain ⟨bk, off, rfl, hbk, hcell⟩ := hb (by omega)
  have hb0 : Byt w w.heap.size (some ⟨bk, off, none⟩) b := fun _ => ⟨bk, off, rfl, hbk, hcell⟩
  have c42 := (x.cells h1).c42
  have f42 : W.frozen? ⟨w.heap.size, 42, none⟩ = false := frozen_of_row W w.heap.size 42 X _ h1
  obtain ⟨W2, hW2⟩ : ∃ W2, W.setCell ⟨w.heap.size, 42, none⟩ (.slice (some ⟨bk, off, none⟩) b.length c) = W2 := ⟨_, rfl⟩
  have r2 : W2.heap[w.heap.size]? = some (.cells (X.setIfInBounds 42 (.slice (some ⟨bk, off, none⟩) b.length c)) 48 (0, 0)) := by rw [← hW2]; exact heap_setCell_same W w.heap.size 42 X _ _ h1
  rw [x.eq, ip_set42 h x.ls x.ld] at r2
  have hV : IpV (ipL (datH h (some ⟨bk, off, none⟩) b.length c)).toArray (datH h (some ⟨bk, off, none⟩) b.length c) := ⟨rfl, x.ls, x.ld⟩
  have r2' : W2.heap[w.heap.size]? = some (.cells (ipL (datH h (some ⟨bk, off, none⟩) b.length c)).toArray 48 (0, 0)) := r2
  have B2 : Hid (Below w.heap.size w W2) := hide (by
    rw [← hW2]
    exact hbW.grown (grown_set W w.heap.size 42 _) (by omega) (fun k hk => by cases hk; omega))
  obtain ⟨s0, hs0⟩ : ∃ s, s = pseS { h with nd := b.length } := ⟨_, rfl⟩
  have KP : Hid (∀ W1 : World, Calls Try.prog 70 #[.agg (ipL (datH h (some ⟨bk, off, none⟩) b.length c)).toArray] W1 fun e w' => e = .returned (.int .u16 (s0 : Int)) ∧ Below W1.heap.size W1 w') := hide (fun W1 => by
    rw [hs0]
    exact pseudo_any W1 _ (datH h (some ⟨bk, off, none⟩) b.length c) hV hn)
  have hs0l : s0 ≤ 65535 := by rw [hs0]; exact pseS_le _
  have c35 := (hV.cells r2').c35
  have hVs := hV.size
  have hVr := hV.x0
  obtain ⟨V, hVV⟩ : ∃ V, V = (ipL (datH h (some ⟨bk, off, none⟩) b.length c)).toArray := ⟨_, rfl⟩
  rw [← hVV] at r2' KP hVs hVr
  obtain ⟨p, hp⟩ : ∃ p, p = h.p := ⟨_, rfl⟩
  have c35' : W2.cell? ⟨w.heap.size, 35, none⟩ = some (.int .i64 p) := by rw [hp]; exact c35
  rw [← hp] at hki
  have KA : Hid (∀ W1 : World, Calls Try.prog 69 #[.int .i64 p] W1 fun e w' => e = .returned (.int .i64 (k : Int)) ∧ W1 = w') := hide (fun W1 => by rw [← hki]; exact sumAt_any W1 p)
  obtain ⟨s1, hs1⟩ : ∃ s, s = addS s0 (b.take k) := ⟨_, rfl⟩
  obtain ⟨s2, hs2⟩ : ∃ s, s = addS s1 (b.drop (k + 2)) := ⟨_, rfl⟩
  have l1 : s1 ≤ 65535 := by rw [hs1]; exact addS_le _ _ hs0l
  have l2 : s2 ≤ 65535 := by rw [hs2]; exact addS_le _ _ l1
  obtain ⟨r, hr⟩ : ∃ r, r = 65535 - s2 := ⟨_, rfl⟩
  have hwr : IntKind.u16.wrap (65535 - (s2 : Int)) = (r : Int) := by
    rw [IntKind.wrap_u16, hr]; omega
  have HV : Hid (sumV h b k = if r = 0 ∧ p = 17 then 65535 else r) := hide (by unfold sumV; rw [hr, hs2, hs1, hs0, hp])
  have hl1 : (b.take k).length = k := by rw [List.length_take]; omega
  have hl2 : (b.drop (k + 2)).length = b.length - (k + 2) := List.length_drop
  have K1 : Hid (∀ W1 : World, Below w.heap.size w W1 → Calls Try.prog 65 #[.int .u16 (s0 : Int), .slice (some ⟨bk, off, none⟩) k c] W1 fun e w' => e = .returned (.int .u16 (s1 : Int)) ∧ ∃ n, w' = W1.drewN n) := hide (fun W1 hb1 => by
    have h := add_any s0 (some ⟨bk, off, none⟩) c (b.take k) w.heap.size W1 hs0l (by omega) (by omega) ((hb0.front k).below hb1)
    rw [hl1, ← hs1] at h
    exact h)
  have K2 : Hid (∀ (W1 : World) (A1 : Option Addr) (c1 : Nat), Byt W1 w.heap.size A1 (b.drop (k + 2)) → b.length - (k + 2) ≤ c1 → Calls Try.prog 65 #[.int .u16 (s1 : Int), .slice A1 (b.length - (k + 2)) c1] W1 fun e w' => e = .returned (.int .u16 (s2 : Int)) ∧ ∃ n, w' = W1.drewN n) := hide (fun W1 A1 c1 hb1 hc1 => by
    have h := add_any s1 A1 c1 (b.drop (k + 2)) w.heap.size W1 l1 (by omega) (by omega) hb1
    rw [hl2, ← hs2] at h
    exact h)
  have hwk : IntKind.i64.wrap ((k : Int) + 2) = ((k + 2 : Nat) : Int) := by rw [show (k : Int) + 2 = ((k + 2 : Nat) : Int) by omega]; exact IntWalk.i64_in _ (by omega)
  have hpart : Hid (∀ W1 : World, Below w.heap.size w W1 → Byt W1 w.heap.size (some ⟨bk, off + (k + 2), none⟩) (b.drop (k + 2))) := hide (fun W1 hb1 => by
    have := Byt.part (hb0.below hb1) (k + 2) (b.length - (k + 2)) (by omega)
    rw [List.take_of_length_le (by rw [List.length_drop]; omega)] at this
    exact this)
  have i0 : (0 : Int) ≤ (k : Int) := by omega
  have i1 : (k : Int) ≤ (c : Int) := by omega
  have i2 : ((k + 2 : Nat) : Int) ≤ (b.length : Int) := by omega
  have i3 : (0 : Int) ≤ ((k + 2 : Nat) : Int) := by omega
  have i4 : (k : Int) ≤ (b.length : Int) := by omega
  have HLC := hide hlc
  have HK2 := hide hk2
  clear hs0 hs1 hs2 hr hl1 hl2 hb hb0 hcell hbk hbW hz hp hpk hk hVV r2 hV x c35 hki hat h1 hs0l l1 l2 hn
  go_enter Try.func47, Try.ntmps47
  go_wp2_with fail
  refine (KA.out W2).mono ?_
  rintro e w3 ⟨rfl, rfl⟩
  dsimp only
  have hkeep := hide (fun (W1 : World) (b : Below W2.heap.size W2 W1) => (⟨(b.block w.heap.size (Array.getElem?_eq_some_iff.1 r2').1).trans r2', (World.cell?_of_block (w := W2) (b.block w.heap.size (Array.getElem?_eq_some_iff.1 r2').1)).trans c35'⟩ : W1.heap[w.heap.size]? = some (.cells V 48 (0, 0)) ∧ W1.cell? ⟨w.heap.size, 35, none⟩ = some (.int .i64 p)))
  go_wp2_with fail
  go_region_held3 (fun w' => w'.heap[w.heap.size]? = some (.cells V 48 (0, 0)))
    (first | exact r2' | exact r4 | exact r5 | fail)
    (first
      | (go_at_call 70; (with_reducible refine (KP.out W2.drew).mono ?_); rintro e w4 ⟨rfl, b4⟩; have B4 : Hid (Below W2.heap.size W2 w4) := hide (below_undrew' b4); have C4 : Hid (Below w.heap.size w w4) := hide (B2.out.trans (B4.out.mono B2.out.size)); obtain ⟨r4, d35⟩ := hkeep.out w4 B4.out; clear b4)
      | (go_at_call 65; (with_reducible refine (K1.out w4 C4.out).mono ?_); rintro e w5 ⟨rfl, n5, hw5⟩; have C5 : Hid (Below w.heap.size w w5) := hide (by rw [hw5]; exact below_drewN C4.out _); have B5 : Hid (Below W2.heap.size W2 w5) := hide (by rw [hw5]; exact below_drewN B4.out _); obtain ⟨r5, e35⟩ := hkeep.out w5 B5.out; clear hw5)
      | fail)
  all_goals (
    clear r2' r4 d35 c35' c42 f42
    have hfin : ∀ (W6 : World) (n6 : Nat), W6 = w5.drewN n6 → Hid (Below w.heap.size w W6) ∧ W6.cell? ⟨w.heap.size, 35, none⟩ = some (.int .i64 p) := fun W6 n6 h6 => by
      rw [h6]
      exact ⟨hide (below_drewN C5.out _), (hkeep.out (w5.drewN n6) (below_drewN B5.out _)).2⟩
    have HF := hide hfin
    clear hfin
    by_cases hkc : k + 2 = c
    · subst hkc
      have hbl : b.length = k + 2 := Nat.le_antisymm HLC.out HK2.out
      have hnil : b.drop (k + 2) = [] := List.drop_eq_nil_of_le (by omega)
      have K2' := K2.out w5 (some ⟨bk, off, none⟩) 0 (by rw [hnil]; exact Byt.nil _ _ _) (by omega)
      rw [show b.length - (k + 2) = 0 by omega] at K2'
      have K2' := hide K2'
      go_wp2_with fail
      (with_reducible refine K2'.out.mono ?_)
      rintro e w6 ⟨rfl, n6, hw6⟩
      obtain ⟨B6, c6⟩ := HF.out w6 n6 hw6
      clear hw6
      dsimp only
      by_cases hr0 : r = 0
      · subst hr0
        by_cases h17 : p = 17
        · subst h17
          go_wp2
          go_ret
          exact ⟨by rw [HV.out]; rfl, B6.out⟩
        · have h17' : (p == 17) = false := by simpa using h17
          go_wp2
          go_ret
          exact ⟨by rw [HV.out]; simp [h17], B6.out⟩
      · have hr1 : ((r : Int) == 0) = false := by rw [beq_eq_false_iff_ne]; omega
        go_wp2
        go_ret
        exact ⟨by rw [HV.out]; simp [hr0], B6.out⟩
    · have hkc' : ¬ (c = k + 2) := fun e => hkc e.symm
      have K2' := hide (fun (W1 : World) (hb1 : Below w.heap.size w W1) => K2.out W1 (some ⟨bk, off + (k + 2), none⟩) (c - (k + 2)) (hpart.out W1 hb1) (by have := HLC.out; omega))
      go_wp2_with fail
      (with_reducible refine (K2'.out w5 C5.out).mono ?_)
      rintro e w6 ⟨rfl, n6, hw6⟩
      obtain ⟨B6, c6⟩ := HF.out w6 n6 hw6
      clear hw6
      dsimp only
      by_cases hr0 : r = 0
      · subst hr0
        by_cases h17 : p = 17
        · subst h17
          go_wp2
          go_ret
          exact ⟨by rw [HV.out]; rfl, B6.out⟩
        · have h17' : (p == 17) = false := by simpa using h17
          go_wp2
          go_ret
          exact ⟨by rw [HV.out]; simp [h17], B6.out⟩
      · have hr1 : ((r : Int) == 0) = false := by rw [beq_eq_false_iff_ne]; omega
        go_wp2
        go_ret
        exact ⟨by rw [HV.out]; simp [hr0], B6.out⟩)
theorem own_low {w : World} {base base' : Nat} {e : TypeId} {size : Nat} {v : Value} {n : Nat} {xs : List Value} (h : w.ownsRow base e size v n xs) (hb : base' ≤ base) : w.ownsRow base' e size v n xs := by
  refine ⟨h.1, ?_⟩
  rcases h.2 with h0 | ⟨g, cap, cur, e, hg, hr⟩
  · exact .inl h0
  · exact .inr ⟨g, cap, cur, e, Nat.le_trans hb hg, hr⟩
set_option maxHeartbeats 1000000 in
theorem piecesU_any (w : World) : Calls Try.prog 49 #[] w fun e w' => ∃ v, e = .returned v ∧ OwnO w' w.heap.size v (opsN [2, 2, 2, 2]) ∧ Below w.heap.size w w' := by
  have h := piecesN_any (w.alloc (.cells #[.int .i64 2, .int .i64 2, .int .i64 2, .int .i64 2] 3)) (some ⟨w.heap.size, 0, none⟩) 4 [2, 2, 2, 2] (by
    have := IntsAt.lit w .i64 [2, 2, 2, 2] #[.int .i64 2, .int .i64 2, .int .i64 2, .int .i64 2] 3 rfl
    rwa [show (w.alloc (.cells #[.int .i64 2, .int .i64 2, .int .i64 2, .int .i64 2] 3)).heap.size = w.heap.size + 1 by simp]) (by simp)
  have H := hide h
  clear h
  go_enter Try.func49, Try.ntmps49
  go_wp2_with fail
  refine H.out.mono ?_
  rintro e w2 ⟨v, rfl, ho, hb⟩
  have hb2 : Below w.heap.size w w2 := ((Below.refl w.heap.size w).alloc (Nat.le_refl _) _).trans (hb.mono (by simp))
  have ho2 : OwnO w2 w.heap.size v (opsN [2, 2, 2, 2]) := own_low ho (by simp)
  have H1 := hide hb2
  have H2 := hide ho2
  clear hb2 ho2 ho hb
  go_wp2
  go_ret
  exact ⟨_, rfl, H2.out, H1.out⟩

set_option maxHeartbeats 4000000 in
theorem behindU_any (w : World) (A : Option Addr) (c : Nat) (b : List UInt8) (n : Nat) (hby : Byt w w.heap.size A b) (hlc : b.length ≤ c) (hn : b.length ≤ 140737488355328) (h0 : n < b.length) :
    Calls Try.prog 48 #[.slice A b.length c, .int .i64 (n : Int), .int .i64 (n : Int)] w fun e w' => ∃ A1 c1 A2 c2, e = .returned (.tuple #[.slice A1 0 c1, .slice A2 (b.length - n) c2]) ∧ Gave w w' A2 c2 (b.drop n) ∧ Below w.heap.size w w' := by
  obtain ⟨bk, off, rfl, hbk, hcell⟩ := hby (by omega)
  have hp := (⟨bk, off, rfl, hbk, hcell⟩ : ∃ b' o', (some (⟨bk, off, none⟩ : Addr)) = some ⟨b', o', none⟩ ∧ b' < w.heap.size ∧ ∀ i (h : i < b.length), w.cell? ⟨b', o' + i, none⟩ = some (.int .u8 (b[i].toNat : Int)))
  have hnc : ¬ (n = c) := by omega
  have i1 : (0 : Int) ≤ (n : Int) := by omega
  have i2 : (n : Int) ≤ (b.length : Int) := by omega
  have i3 : (n : Int) ≤ (c : Int) := by omega
  go_enter Try.func48, Try.ntmps48
  go_wp2_with fail
  have hd0 : Byt w w.heap.size (some ⟨bk, off + n, none⟩) (b.drop n) := by
    have := Byt.part (show Byt w w.heap.size (some ⟨bk, off, none⟩) b from fun _ => hp) n (b.length - n) (by omega)
    rw [List.take_of_length_le (by rw [List.length_drop]; omega)] at this
    exact this
  have KC := clone_any w w.heap.size (some ⟨bk, off + n, none⟩) (b.drop n) (c - n) (by rw [List.length_drop]; omega) hd0 (Nat.le_refl _)
  rw [List.length_drop] at KC
  refine KC.mono ?_
  rintro e w1 ⟨v1, rfl, o1, b1⟩
  have hbl : (b.drop n).length = b.length - n := List.length_drop
  obtain ⟨N, hN⟩ : ∃ N, N = b.length - n := ⟨_, rfl⟩
  obtain ⟨g, cap, hv1, hg1⟩ : ∃ g cap, v1 = .slice (some ⟨g, 0, none⟩) N cap ∧ w.heap.size ≤ g := by
    rcases o1.2 with ⟨_, h0⟩ | ⟨g, cap, cur, e, hbg, -⟩
    · omega
    · exact ⟨g, cap, by rw [e, hbl, hN], hbg⟩
  subst hv1
  have hsub : IntKind.i64.wrap ((n : Int) - (n : Int)) = 0 := by rw [Int.sub_self]; rfl
  obtain ⟨A', c', e', hlc1, hby1, -, -⟩ := o1.shape
  rw [hbl, ← hN] at e'
  cases e'
  have hG : Hid (Gave w w1.drew (some ⟨g, 0, none⟩) N (b.drop n)) := hide ⟨hby1, (by rw [hbl, hN]; exact Nat.le_refl _), (fun h => by cases h), (fun x hx => by cases hx; exact hg1)⟩
  have hB := hide b1
  have HN := hide hN
  rw [hbl, ← hN] at hlc1
  have hN0 : ¬ (N = 0) := by omega
  have hN0' : ¬ (0 = N) := by omega
  have hN1 : ¬ ((N : Int) = 0) := by omega
  have j2 : (0 : Int) ≤ (N : Int) := by omega
  have j4 : (N : Int) ≤ (cap : Int) := by omega
  have j5 : (0 : Int) ≤ (cap : Int) := by omega
  rw [← HN.out]
  clear KC hd0 hby1 o1 hN hp hbk hcell hby b1 hg1 hbl
  dsimp only
  go_wp2
  go_region_held3 (fun _ => True) (first | trivial | fail) (fail)
  all_goals (
    go_wp2
    go_ret2
    exact ⟨some ⟨g, 0, none⟩, 0, some ⟨g, 0, none⟩, N, by rw [← HN.out]; rfl, hG.out, hB.out.drew⟩)
end Go.Proofs.Ytdlilokmfekndaa
