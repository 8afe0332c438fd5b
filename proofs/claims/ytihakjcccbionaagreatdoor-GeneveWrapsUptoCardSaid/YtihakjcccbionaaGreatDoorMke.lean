import Derived.Test.YtihakjcccbionaaGreatDoorMka
import Derived.Test.YtihakjcccbionaaGreatDoorJb
import Derived.Deep.RegionHeld3
section
/-
  The walks of segment.sum, head (of UDP), behind.
-/
namespace Go.Proofs.YtihakjcccbionaaGreatDoor
open Go.RowKit
attribute [local go_sem ↓] exec_span exec_put exec_build heap_alloc_new heap_old
attribute [local go_sem] spanQ_ptr spanC_some heap_of_drew heap_of_drewN rs_arr rs_ad rs_ip rs_rip rs_seg putAt_ptr putOk_ptr oldOk_some World.setRow_alloc_new
set_option maxRecDepth 100000
set_option linter.unusedVariables false
set_option linter.unusedSimpArgs false

/-- the packet with other data. -/
def datH (h : Ip) (ad : Option Addr) (nd cd : Nat) : Ip := { h with ad := ad, nd := nd, cd := cd }
theorem sum_split (h : Ip) (b : List UInt8) (k : Nat) (hp : h.p = 17) : sumV h b k = if 65535 - addS (addS (pseS { h with nd := b.length }) (b.take k)) (b.drop (k + 2)) = 0 then 65535 else 65535 - addS (addS (pseS { h with nd := b.length }) (b.take k)) (b.drop (k + 2)) := by
  unfold sumV
  simp [hp]

theorem Byt.part {w : World} {B b off : Nat} {l : List UInt8} (h : Byt w B (some ⟨b, off, none⟩) l) (k m : Nat) (hk : k + m ≤ l.length) : Byt w B (some ⟨b, off + k, none⟩) ((l.drop k).take m) := fun h0 => by
  rw [List.length_take, List.length_drop] at h0
  obtain ⟨b', off', e, hb, hc⟩ := h (by omega)
  cases e
  refine ⟨b, off + k, rfl, hb, fun i hi => ?_⟩
  rw [List.length_take, List.length_drop] at hi
  rw [Nat.add_assoc]
  rw [hc (k + i) (by omega)]
  simp

set_option maxHeartbeats 1600000 in
theorem sumS_any (w : World) (X : Array Value) (h : Ip) (x : IpV X h) (A : Option Addr) (c : Nat) (b : List UInt8) (hb : Byt w w.heap.size A b) (hlc : b.length ≤ c) (hn : b.length ≤ 140737488355328) (hat : (if h.p = 6 then 18 else 8) ≤ b.length) :
    Calls Tryz.prog 34 #[.agg X, .slice A b.length c] w fun e w' => e = .returned (.int .u16 ((sumV h b (if h.p = 6 then 16 else 6) : Nat) : Int)) ∧ Below w.heap.size w w' := by
  have hxs := x.size
  have hxr := x.x0
  have hxo := x.one
  obtain ⟨W, hW, h1, hz, hbW⟩ := one_block w (.cells X 51)
  obtain ⟨k, hk⟩ : ∃ k : Nat, k = if h.p = 6 then 16 else 6 := ⟨_, rfl⟩
  have hki : (if h.p = 6 then (16 : Int) else 6) = (k : Int) := by rw [hk]; split <;> rfl
  have hk2 : k + 2 ≤ b.length := by rw [hk]; split at hat <;> simp_all
  have hpk : (if h.p = 6 then 16 else 6 : Nat) = k := hk.symm
  rw [hpk]
  obtain ⟨bk, off, rfl, hbk, hcell⟩ := hb (by omega)
  have hb0 : Byt w w.heap.size (some ⟨bk, off, none⟩) b := fun _ => ⟨bk, off, rfl, hbk, hcell⟩
  have c42 := (x.cells h1).c42
  have f42 : W.frozen? ⟨w.heap.size, 42, none⟩ = false := frozen_of_row W w.heap.size 42 X _ h1
  obtain ⟨W2, hW2⟩ : ∃ W2, W.setCell ⟨w.heap.size, 42, none⟩ (.slice (some ⟨bk, off, none⟩) b.length c) = W2 := ⟨_, rfl⟩
  have r2 : W2.heap[w.heap.size]? = some (.cells (X.setIfInBounds 42 (.slice (some ⟨bk, off, none⟩) b.length c)) 51 (0, 0)) := by rw [← hW2]; exact heap_setCell_same W w.heap.size 42 X _ _ h1
  rw [x.eq, ip_set42 h x.ls x.ld] at r2
  have hV : IpV (ipL (datH h (some ⟨bk, off, none⟩) b.length c)).toArray (datH h (some ⟨bk, off, none⟩) b.length c) := ⟨rfl, x.ls, x.ld⟩
  have r2' : W2.heap[w.heap.size]? = some (.cells (ipL (datH h (some ⟨bk, off, none⟩) b.length c)).toArray 51 (0, 0)) := r2
  have B2 : Hid (Below w.heap.size w W2) := hide (by
    rw [← hW2]
    exact hbW.grown (grown_set W w.heap.size 42 _) (by omega) (fun k hk => by cases hk; omega))
  obtain ⟨s0, hs0⟩ : ∃ s, s = pseS { h with nd := b.length } := ⟨_, rfl⟩
  have KP : Hid (∀ W1 : World, Calls Tryz.prog 70 #[.agg (ipL (datH h (some ⟨bk, off, none⟩) b.length c)).toArray] W1 fun e w' => e = .returned (.int .u16 (s0 : Int)) ∧ Below W1.heap.size W1 w') := hide (fun W1 => by
    rw [hs0]
    exact pseudo_any W1 _ (datH h (some ⟨bk, off, none⟩) b.length c) hV hn)
  have hs0l : s0 ≤ 65535 := by rw [hs0]; exact pseS_le _
  have c35 := (hV.cells r2').c35
  have hVs := hV.size
  have hVr := hV.x0
  obtain ⟨V, hVV⟩ : ∃ V, V = (ipL (datH h (some ⟨bk, off, none⟩) b.length c)).toArray := ⟨_, rfl⟩
  rw [← hVV] at r2' KP hVs hVr
  obtain ⟨p, hp⟩ : ∃ p, p = h.p := ⟨_, rfl⟩
  have c35' : W2.cell? ⟨w.heap.size, 35, none⟩ = some (.int .i64 p) := by rw [hp]; exact c35
  rw [← hp] at hki
  have KA : Hid (∀ W1 : World, Calls Tryz.prog 35 #[.int .i64 p] W1 fun e w' => e = .returned (.int .i64 (k : Int)) ∧ W1 = w') := hide (fun W1 => by rw [← hki]; exact sumAt_any W1 p)
  obtain ⟨s1, hs1⟩ : ∃ s, s = addS s0 (b.take k) := ⟨_, rfl⟩
  obtain ⟨s2, hs2⟩ : ∃ s, s = addS s1 (b.drop (k + 2)) := ⟨_, rfl⟩
  have l1 : s1 ≤ 65535 := by rw [hs1]; exact addS_le _ _ hs0l
  have l2 : s2 ≤ 65535 := by rw [hs2]; exact addS_le _ _ l1
  obtain ⟨r, hr⟩ : ∃ r, r = 65535 - s2 := ⟨_, rfl⟩
  have hwr : IntKind.u16.wrap (65535 - (s2 : Int)) = (r : Int) := by
    rw [IntKind.wrap_u16, hr]; omega
  have HV : Hid (sumV h b k = if r = 0 ∧ p = 17 then 65535 else r) := hide (by unfold sumV; rw [hr, hs2, hs1, hs0, hp])
  have hl1 : (b.take k).length = k := by rw [List.length_take]; omega
  have hl2 : (b.drop (k + 2)).length = b.length - (k + 2) := List.length_drop
  have K1 : Hid (∀ W1 : World, Below w.heap.size w W1 → Calls Tryz.prog 69 #[.int .u16 (s0 : Int), .slice (some ⟨bk, off, none⟩) k c] W1 fun e w' => e = .returned (.int .u16 (s1 : Int)) ∧ ∃ n, w' = W1.drewN n) := hide (fun W1 hb1 => by
    have h := add_any s0 (some ⟨bk, off, none⟩) c (b.take k) w.heap.size W1 hs0l (by omega) (by omega) ((hb0.front k).below hb1)
    rw [hl1, ← hs1] at h
    exact h)
  have K2 : Hid (∀ (W1 : World) (A1 : Option Addr) (c1 : Nat), Byt W1 w.heap.size A1 (b.drop (k + 2)) → b.length - (k + 2) ≤ c1 → Calls Tryz.prog 69 #[.int .u16 (s1 : Int), .slice A1 (b.length - (k + 2)) c1] W1 fun e w' => e = .returned (.int .u16 (s2 : Int)) ∧ ∃ n, w' = W1.drewN n) := hide (fun W1 A1 c1 hb1 hc1 => by
    have h := add_any s1 A1 c1 (b.drop (k + 2)) w.heap.size W1 l1 (by omega) (by omega) hb1
    rw [hl2, ← hs2] at h
    exact h)
  have hwk : IntKind.i64.wrap ((k : Int) + 2) = ((k + 2 : Nat) : Int) := by rw [show (k : Int) + 2 = ((k + 2 : Nat) : Int) by omega]; exact IntWalk.i64_in _ (by omega)
  have hpart : Hid (∀ W1 : World, Below w.heap.size w W1 → Byt W1 w.heap.size (some ⟨bk, off + (k + 2), none⟩) (b.drop (k + 2))) := hide (fun W1 hb1 => by
    have := Byt.part (hb0.below hb1) (k + 2) (b.length - (k + 2)) (by omega)
    rw [List.take_of_length_le (by rw [List.length_drop]; omega)] at this
    exact this)
  have i0 : (0 : Int) ≤ (k : Int) := by omega
  have i1 : (k : Int) ≤ (c : Int) := by omega
  have i2 : ((k + 2 : Nat) : Int) ≤ (b.length : Int) := by omega
  have i3 : (0 : Int) ≤ ((k + 2 : Nat) : Int) := by omega
  have i4 : (k : Int) ≤ (b.length : Int) := by omega
  have HLC := hide hlc
  have HK2 := hide hk2
  clear hs0 hs1 hs2 hr hl1 hl2 hb hb0 hcell hbk hbW hz hp hpk hk hVV r2 hV x c35 hki hat h1 hs0l l1 l2 hn
  go_enter Tryz.func34, Tryz.ntmps34
  go_wp2_with fail
  refine (KA.out W2).mono ?_
  rintro e w3 ⟨rfl, rfl⟩
  dsimp only
  have hkeep := hide (fun (W1 : World) (b : Below W2.heap.size W2 W1) => (⟨(b.block w.heap.size (Array.getElem?_eq_some_iff.1 r2').1).trans r2', (World.cell?_of_block (w := W2) (b.block w.heap.size (Array.getElem?_eq_some_iff.1 r2').1)).trans c35'⟩ : W1.heap[w.heap.size]? = some (.cells V 51 (0, 0)) ∧ W1.cell? ⟨w.heap.size, 35, none⟩ = some (.int .i64 p)))
  go_wp2_with fail
  go_region_held3 (fun w' => w'.heap[w.heap.size]? = some (.cells V 51 (0, 0)))
    (first | exact r2' | exact r4 | exact r5 | fail)
    (first
      | (go_at_call 70; (with_reducible refine (KP.out W2.drew).mono ?_); rintro e w4 ⟨rfl, b4⟩; have B4 : Hid (Below W2.heap.size W2 w4) := hide (below_undrew' b4); have C4 : Hid (Below w.heap.size w w4) := hide (B2.out.trans (B4.out.mono B2.out.size)); obtain ⟨r4, d35⟩ := hkeep.out w4 B4.out; clear b4)
      | (go_at_call 69; (with_reducible refine (K1.out w4 C4.out).mono ?_); rintro e w5 ⟨rfl, n5, hw5⟩; have C5 : Hid (Below w.heap.size w w5) := hide (by rw [hw5]; exact below_drewN C4.out _); have B5 : Hid (Below W2.heap.size W2 w5) := hide (by rw [hw5]; exact below_drewN B4.out _); obtain ⟨r5, e35⟩ := hkeep.out w5 B5.out; clear hw5)
      | fail)
  all_goals (
    clear r2' r4 d35 c35' c42 f42
    have hfin : ∀ (W6 : World) (n6 : Nat), W6 = w5.drewN n6 → Hid (Below w.heap.size w W6) ∧ W6.cell? ⟨w.heap.size, 35, none⟩ = some (.int .i64 p) := fun W6 n6 h6 => by
      rw [h6]
      exact ⟨hide (below_drewN C5.out _), (hkeep.out (w5.drewN n6) (below_drewN B5.out _)).2⟩
    have HF := hide hfin
    clear hfin
    by_cases hkc : k + 2 = c
    · subst hkc
      have hbl : b.length = k + 2 := Nat.le_antisymm HLC.out HK2.out
      have hnil : b.drop (k + 2) = [] := List.drop_eq_nil_of_le (by omega)
      have K2' := K2.out w5 (some ⟨bk, off, none⟩) 0 (by rw [hnil]; exact Byt.nil _ _ _) (by omega)
      rw [show b.length - (k + 2) = 0 by omega] at K2'
      have K2' := hide K2'
      go_wp2_with fail
      (with_reducible refine K2'.out.mono ?_)
      rintro e w6 ⟨rfl, n6, hw6⟩
      obtain ⟨B6, c6⟩ := HF.out w6 n6 hw6
      clear hw6
      dsimp only
      by_cases hr0 : r = 0
      · subst hr0
        by_cases h17 : p = 17
        · subst h17
          go_wp2
          go_ret
          exact ⟨by rw [HV.out]; rfl, B6.out⟩
        · have h17' : (p == 17) = false := by simpa using h17
          go_wp2
          go_ret
          exact ⟨by rw [HV.out]; simp [h17], B6.out⟩
      · have hr1 : ((r : Int) == 0) = false := by rw [beq_eq_false_iff_ne]; omega
        go_wp2
        go_ret
        exact ⟨by rw [HV.out]; simp [hr0], B6.out⟩
    · have hkc' : ¬ (c = k + 2) := fun e => hkc e.symm
      have K2' := hide (fun (W1 : World) (hb1 : Below w.heap.size w W1) => K2.out W1 (some ⟨bk, off + (k + 2), none⟩) (c - (k + 2)) (hpart.out W1 hb1) (by have := HLC.out; omega))
      go_wp2_with fail
      (with_reducible refine (K2'.out w5 C5.out).mono ?_)
      rintro e w6 ⟨rfl, n6, hw6⟩
      obtain ⟨B6, c6⟩ := HF.out w6 n6 hw6
      clear hw6
      dsimp only
      by_cases hr0 : r = 0
      · subst hr0
        by_cases h17 : p = 17
        · subst h17
          go_wp2
          go_ret
          exact ⟨by rw [HV.out]; rfl, B6.out⟩
        · have h17' : (p == 17) = false := by simpa using h17
          go_wp2
          go_ret
          exact ⟨by rw [HV.out]; simp [h17], B6.out⟩
      · have hr1 : ((r : Int) == 0) = false := by rw [beq_eq_false_iff_ne]; omega
        go_wp2
        go_ret
        exact ⟨by rw [HV.out]; simp [hr0], B6.out⟩)
theorem own_low {w : World} {base base' : Nat} {e : TypeId} {size : Nat} {v : Value} {n : Nat} {xs : List Value} (h : w.ownsRow base e size v n xs) (hb : base' ≤ base) : w.ownsRow base' e size v n xs := by
  refine ⟨h.1, ?_⟩
  rcases h.2 with h0 | ⟨g, cap, cur, e, hg, hr⟩
  · exact .inl h0
  · exact .inr ⟨g, cap, cur, e, Nat.le_trans hb hg, hr⟩
set_option maxHeartbeats 1000000 in
theorem piecesU_any (w : World) : Calls Tryz.prog 67 #[] w fun e w' => ∃ v, e = .returned v ∧ OwnO w' w.heap.size v (opsN [2, 2, 2, 2]) ∧ Below w.heap.size w w' := by
  have h := piecesN_any (w.alloc (.cells #[.int .i64 2, .int .i64 2, .int .i64 2, .int .i64 2] 3)) (some ⟨w.heap.size, 0, none⟩) 4 [2, 2, 2, 2] (by
    have := IntsAt.lit w .i64 [2, 2, 2, 2] #[.int .i64 2, .int .i64 2, .int .i64 2, .int .i64 2] 3 rfl
    rwa [show (w.alloc (.cells #[.int .i64 2, .int .i64 2, .int .i64 2, .int .i64 2] 3)).heap.size = w.heap.size + 1 by simp]) (by simp)
  have H := hide h
  clear h
  go_enter Tryz.func67, Tryz.ntmps67
  go_wp2_with fail
  refine H.out.mono ?_
  rintro e w2 ⟨v, rfl, ho, hb⟩
  have hb2 : Below w.heap.size w w2 := ((Below.refl w.heap.size w).alloc (Nat.le_refl _) _).trans (hb.mono (by simp))
  have ho2 : OwnO w2 w.heap.size v (opsN [2, 2, 2, 2]) := own_low ho (by simp)
  have H1 := hide hb2
  have H2 := hide ho2
  clear hb2 ho2 ho hb
  go_wp2
  go_ret
  exact ⟨_, rfl, H2.out, H1.out⟩

theorem layU_any (W1 : World) (an bn nd : Nat) (Al : Option Addr) (cl : Nat) (ho : Ops W1 W1.heap.size Al (opsN [2, 2, 2, 2])) (ha : an ≤ 65535) (hb : bn ≤ 65535) (hn : nd ≤ 65527) :
    Calls Tryz.prog 66 #[.slice Al 4 cl, .slice (some ⟨W1.heap.size, 0, none⟩) 4 4] (W1.alloc (.cells #[.int .u64 (an : Int), .int .u64 (bn : Int), .int .u64 (8 + (nd : Int)), .int .u64 0] 98)) fun e w' => ∃ v, e = .returned v ∧ OwnB w' W1.heap.size v (fldB [(2, an), (2, bn), (2, 8 + nd), (2, 0)]) ∧ Below W1.heap.size W1 w' := by
  have b0 : Below W1.heap.size W1 (W1.alloc (.cells #[.int .u64 (an : Int), .int .u64 (bn : Int), .int .u64 (8 + (nd : Int)), .int .u64 0] 98)) := (Below.refl _ _).alloc (Nat.le_refl _) _
  have h := layN_any (W1.alloc (.cells #[.int .u64 (an : Int), .int .u64 (bn : Int), .int .u64 (8 + (nd : Int)), .int .u64 0] 98)) (some ⟨W1.heap.size, 0, none⟩) Al 4 cl [an, bn, 8 + nd, 0] [2, 2, 2, 2] (ho.more b0.size b0) (by
    have := IntsAt.lit W1 .u64 (([an, bn, 8 + nd, 0] : List Nat).map fun s : Nat => (s : Int)) #[.int .u64 (an : Int), .int .u64 (bn : Int), .int .u64 (8 + (nd : Int)), .int .u64 0] 98 (by simp)
    rwa [show (W1.alloc (.cells #[.int .u64 (an : Int), .int .u64 (bn : Int), .int .u64 (8 + (nd : Int)), .int .u64 0] 98)).heap.size = W1.heap.size + 1 by simp]) (by simp) rfl (by
    intro f hf
    simp at hf
    rcases hf with rfl | rfl | rfl | rfl <;> simp <;> omega)
  refine h.mono fun e w' ⟨A', c', h1, h2, h3⟩ => ⟨_, h1, own_low h2 (by simp), b0.trans (h3.mono b0.size)⟩
set_option maxHeartbeats 4000000 in
theorem headU_any (w : World) (X : Array Value) (s : Sg) (x : SgV X s) (hp : s.p = 17) (hno : s.no ≤ 140737488355328) (hnd : s.nd ≤ 65527) (an bn : Nat) (ha : s.a = (an : Int)) (ha2 : an ≤ 65535) (hb : s.b = (bn : Int)) (hb2 : bn ≤ 65535) :
    Calls Tryz.prog 33 #[.agg X] w fun e w' => ∃ v, e = .returned v ∧ OwnB w' w.heap.size v (fldB [(2, an), (2, bn), (2, 8 + s.nd), (2, 0)]) ∧ Below w.heap.size w w' := by
  have hxs := x.size
  have hxr := x.x0
  obtain ⟨W, hW, h1, hz, hbW⟩ := one_block w (.cells X 55)
  have KS := hide (fun (W1 : World) => sizeS_any W1 X s x hno (by omega))
  rw [hp, if_neg (by decide)] at KS
  have hkeep := hide (fun (W1 : World) (b : Below W.heap.size W W1) => ((b.block w.heap.size (by omega)).trans h1 : W1.heap[w.heap.size]? = some (.cells X 55 (0, 0))))
  obtain ⟨c0, c1, c2, c3, c4, c5, c6, c7, c8, c9, c10⟩ := x.cells h1
  rw [hp] at c0
  rw [ha] at c1
  rw [hb] at c2
  have hwa : IntKind.u64.wrap (an : Int) = (an : Int) := IntWalk.u64_in _ (by omega)
  have hwb : IntKind.u64.wrap (bn : Int) = (bn : Int) := IntWalk.u64_in _ (by omega)
  have hws : IntKind.u64.wrap (8 + (s.nd : Int)) = 8 + (s.nd : Int) := IntWalk.u64_in _ (by omega)
  have HB := hide hbW
  have HZ := hide hz
  obtain ⟨nd, hndd⟩ : ∃ n, n = s.nd := ⟨_, rfl⟩
  rw [← hndd] at KS hws hnd ⊢
  have HND := hide hnd
  have HA2 := hide ha2
  have HB2 := hide hb2
  clear hbW hz ha hb hp hndd hnd ha2 hb2 hno x
  have c1d : W.drew.cell? ⟨w.heap.size, 1, none⟩ = some (.int .i64 (an : Int)) := c1
  have c2d : W.drew.cell? ⟨w.heap.size, 2, none⟩ = some (.int .i64 (bn : Int)) := c2
  go_enter Tryz.func33, Tryz.ntmps33
  go_wp2_with fail
  go_region_held3 (fun w' => w'.cell? ⟨w.heap.size, 1, none⟩ = some (.int .i64 (an : Int)) ∧ w'.cell? ⟨w.heap.size, 2, none⟩ = some (.int .i64 (bn : Int)))
    (first | exact ⟨c1d, c2d⟩ | exact ⟨c1, c2⟩ | fail) (fail)
  all_goals (
    have hk1 : Hid (W.drew.heap[w.heap.size]? = some (.cells X 55 (0, 0))) := hide (hkeep.out W.drew (Below.refl _ _).drew)
    go_wp2_with fail
    go_region_held3 (fun w' => w'.heap[w.heap.size]? = some (.cells X 55 (0, 0)))
      (first | exact hk1.out | exact r2 | exact r3 | exact hkeep.out _ (B3.out.alloc B3.out.size _) | exact r4 | fail)
      (first
        | (go_at_call 67; (with_reducible refine (piecesU_any _).mono ?_); rintro e w2 ⟨v2, rfl, o2, b2⟩
           have B2 : Hid (Below W.heap.size W w2) := hide ((Below.refl _ _).drew.drew.trans b2)
           obtain ⟨Al, cl, ev, -, -⟩ := o2.shape
           have ev' : v2 = .slice Al 4 cl := ev
           subst ev'
           clear ev
           have O2 := hide o2
           have r2 := hkeep.out w2 B2.out
           clear b2 o2)
        | (go_at_call 32; (with_reducible refine (KS.out w2).mono ?_); rintro e w3 ⟨rfl, b3⟩
           have B3 : Hid (Below W.heap.size W w3) := hide (B2.out.trans (b3.mono B2.out.size))
           have O3 : Hid (Ops w3 w3.heap.size Al (opsN [2, 2, 2, 2])) := hide (by
             have o3 : OwnO w3 W.heap.size (.slice Al 4 cl) (opsN [2, 2, 2, 2]) := World.ownsRow.kept O2.out (below_row b3 none) (Classical.em _)
             obtain ⟨A', c', e', h', -⟩ := o3.shape
             cases e'
             exact h')
           have r3 := hkeep.out w3 B3.out
           clear b3)
        | (go_at_call 66; (with_reducible refine (layU_any w3 an bn nd Al cl O3.out HA2.out HB2.out HND.out).mono ?_); rintro e w4 ⟨v4, rfl, o4, b4⟩
           have B4 : Hid (Below W.heap.size W w4) := hide (B3.out.trans (b4.mono B3.out.size))
           have O4 : Hid (OwnB w4 W.heap.size v4 (fldB [(2, an), (2, bn), (2, 8 + nd), (2, 0)])) := hide (own_low o4 B3.out.size)
           have r4 := hkeep.out w4 B4.out
           clear b4 o4)
        | fail)
    all_goals (
      go_wp2
      go_ret
      exact ⟨_, rfl, own_low O4.out HB.out.size, HB.out.trans (B4.out.mono HB.out.size)⟩))
set_option maxHeartbeats 4000000 in
theorem behindU_any (w : World) (A : Option Addr) (c : Nat) (b : List UInt8) (n : Nat) (hby : Byt w w.heap.size A b) (hlc : b.length ≤ c) (hn : b.length ≤ 140737488355328) (h0 : n < b.length) :
    Calls Tryz.prog 91 #[.slice A b.length c, .int .i64 (n : Int), .int .i64 (n : Int)] w fun e w' => ∃ A1 c1 A2 c2, e = .returned (.tuple #[.slice A1 0 c1, .slice A2 (b.length - n) c2]) ∧ Gave w w' A2 c2 (b.drop n) ∧ Below w.heap.size w w' := by
  obtain ⟨bk, off, rfl, hbk, hcell⟩ := hby (by omega)
  have hp := (⟨bk, off, rfl, hbk, hcell⟩ : ∃ b' o', (some (⟨bk, off, none⟩ : Addr)) = some ⟨b', o', none⟩ ∧ b' < w.heap.size ∧ ∀ i (h : i < b.length), w.cell? ⟨b', o' + i, none⟩ = some (.int .u8 (b[i].toNat : Int)))
  have hnc : ¬ (n = c) := by omega
  have i1 : (0 : Int) ≤ (n : Int) := by omega
  have i2 : (n : Int) ≤ (b.length : Int) := by omega
  have i3 : (n : Int) ≤ (c : Int) := by omega
  go_enter Tryz.func91, Tryz.ntmps91
  go_wp2_with fail
  have hd0 : Byt w w.heap.size (some ⟨bk, off + n, none⟩) (b.drop n) := by
    have := Byt.part (show Byt w w.heap.size (some ⟨bk, off, none⟩) b from fun _ => hp) n (b.length - n) (by omega)
    rw [List.take_of_length_le (by rw [List.length_drop]; omega)] at this
    exact this
  have KC := clone_any w w.heap.size (some ⟨bk, off + n, none⟩) (b.drop n) (c - n) (by rw [List.length_drop]; omega) hd0 (Nat.le_refl _)
  rw [List.length_drop] at KC
  refine KC.mono ?_
  rintro e w1 ⟨v1, rfl, o1, b1⟩
  have hbl : (b.drop n).length = b.length - n := List.length_drop
  obtain ⟨N, hN⟩ : ∃ N, N = b.length - n := ⟨_, rfl⟩
  obtain ⟨g, cap, hv1, hg1⟩ : ∃ g cap, v1 = .slice (some ⟨g, 0, none⟩) N cap ∧ w.heap.size ≤ g := by
    rcases o1.2 with ⟨_, h0⟩ | ⟨g, cap, cur, e, hbg, -⟩
    · omega
    · exact ⟨g, cap, by rw [e, hbl, hN], hbg⟩
  subst hv1
  have hsub : IntKind.i64.wrap ((n : Int) - (n : Int)) = 0 := by rw [Int.sub_self]; rfl
  obtain ⟨A', c', e', hlc1, hby1, -, -⟩ := o1.shape
  rw [hbl, ← hN] at e'
  cases e'
  have hG : Hid (Gave w w1.drew (some ⟨g, 0, none⟩) N (b.drop n)) := hide ⟨hby1, (by rw [hbl, hN]; exact Nat.le_refl _), (fun h => by cases h), (fun x hx => by cases hx; exact hg1)⟩
  have hB := hide b1
  have HN := hide hN
  rw [hbl, ← hN] at hlc1
  have hN0 : ¬ (N = 0) := by omega
  have hN0' : ¬ (0 = N) := by omega
  have hN1 : ¬ ((N : Int) = 0) := by omega
  have j2 : (0 : Int) ≤ (N : Int) := by omega
  have j4 : (N : Int) ≤ (cap : Int) := by omega
  have j5 : (0 : Int) ≤ (cap : Int) := by omega
  rw [← HN.out]
  clear KC hd0 hby1 o1 hN hp hbk hcell hby b1 hg1 hbl
  dsimp only
  go_wp2
  go_region_held3 (fun _ => True) (first | trivial | fail) (fail)
  all_goals (
    go_wp2
    go_ret2
    exact ⟨some ⟨g, 0, none⟩, 0, some ⟨g, 0, none⟩, N, by rw [← HN.out]; rfl, hG.out, hB.out.drew⟩)
end Go.Proofs.YtihakjcccbionaaGreatDoor

end
section
/-
  The walks of steelyardlaw05.within, given and taken.
-/
namespace Go.Proofs.YtihakjcccbionaaGreatDoor
open Go.RowKit
attribute [local go_sem ↓] exec_span exec_put exec_build heap_alloc_new heap_old
attribute [local go_sem] spanQ_ptr spanC_some heap_of_drew heap_of_drewN rs_arr rs_ad rs_ip rs_rip putAt_ptr putOk_ptr oldOk_some World.setRow_alloc_new
set_option maxRecDepth 100000
set_option linter.unusedVariables false
set_option linter.unusedSimpArgs false

theorem rs_rseg : rowSize Tryz.prog 64 = some 11 := by kernel_rfl
theorem info_seg : (Tryz.prog.info? 55).map (·.size) = some 11 := by kernel_rfl
theorem info_rseg : (Tryz.prog.info? 64).map (·.size) = some 11 := by kernel_rfl
attribute [local go_sem] rs_seg rs_rseg
/-- the parts that a segment is made of. -/
def sgP (s : Sg) : List (Nat × Value) := [(0, .int .i64 s.p), (1, .int .i64 s.a), (2, .int .i64 s.b), (3, .int .u32 (s.q : Int)), (4, .int .u32 (s.k : Int)), (5, .int .i64 s.f), (6, .int .i64 s.wn), (7, .int .i64 s.u), (8, .bool s.ns), (9, .slice s.ao s.no s.co), (10, .slice s.ad s.nd s.cd)]
theorem built_sg (s : Sg) : Tryz.prog.built 55 (sgP s) = some (sgL s).toArray := by kernel_rfl
theorem built_rsg (s : Sg) : Tryz.prog.built 64 (sgP s) = some (sgL s).toArray := by kernel_rfl
def nSg : Sg := ⟨0, 0, 0, 0, 0, 0, 0, 0, false, none, 0, 0, none, 0, 0⟩
theorem nSg_ok : SgV (sgL nSg).toArray nSg := ⟨rfl, by decide, by decide⟩
/-- the segment as the program has it: its lists in new memory, marks behind them. -/
def givS (s : Sg) (g1 g2 : Nat) : Sg := { s with ao := some ⟨g1, 0, none⟩, co := s.no + 8, ad := some ⟨g2, 0, none⟩, cd := s.nd + 8 }
def GivenS (w : World) (s : Sg) (O D : List UInt8) (e : Ending) (w' : World) : Prop := ∃ g1 g2, e = .returned (.agg (sgL (givS s g1 g2)).toArray) ∧ Lentd w' g1 O ∧ Lentd w' g2 D ∧ w.heap.size ≤ g1 ∧ w.heap.size ≤ g2 ∧ Below w.heap.size w w'

end Go.Proofs.YtihakjcccbionaaGreatDoor

end
section
/-
  The walks of segment.Put: of another protocol; of a datagram with a sum.
-/
namespace Go.Proofs.YtihakjcccbionaaGreatDoor
open Go.RowKit
attribute [local go_sem ↓] exec_span exec_put exec_build heap_alloc_new heap_old
attribute [local go_sem] spanQ_ptr spanC_some heap_of_drew heap_of_drewN rs_arr rs_ad rs_ip rs_rip rs_seg putAt_ptr putOk_ptr oldOk_some World.setRow_alloc_new
set_option maxRecDepth 100000
set_option linter.unusedVariables false
set_option linter.unusedSimpArgs false

set_option maxHeartbeats 1600000 in
theorem segPutP_any (w : World) (X Y : Array Value) (h : Ip) (s : Sg) (x : IpV X h) (y : SgV Y s) (h6 : ¬ h.p = 6) (h17 : ¬ h.p = 17) :
    Calls Tryz.prog 16 #[.agg X, .agg Y] w fun e w' => e = .returned (.tuple #[.slice none 0 0, .int .i64 14]) ∧ Below w.heap.size w w' := by
  obtain ⟨W, hW⟩ : ∃ W, (w.alloc (.cells X 51)).alloc (.cells Y 55) = W := ⟨_, rfl⟩
  obtain ⟨r1, r2, hz, hb⟩ := two_packs w X _ _ _ W hW
  have c35 := (x.cells r1).c35
  obtain ⟨d0, d1, d2, d3, d4, d5, d6, d7, d8, d9, d10⟩ := y.cells r2
  have HB := hide hb
  have HW := hide hW
  obtain ⟨p, hp⟩ : ∃ p, p = h.p := ⟨_, rfl⟩
  rw [← hp] at c35 h6 h17
  have e6 : (p != 6) = true := by simpa using h6
  have e17 : (p != 17) = true := by simpa using h17
  clear hz hb hW r1 r2 x y hp h6 h17
  go_enter Tryz.func16, Tryz.ntmps16
  go_upto_region 1 with (fail)
  change Code.wp _ _ _ _ ((w.alloc (.cells X 51)).alloc (.cells Y 55))
  rw [HW.out]
  go_wp2
  go_ret2
  exact ⟨rfl, HB.out⟩

/-- a byte of one's own row is written over. -/
theorem putByte {w : World} {base g cap : Nat} {l : List UInt8} (h : OwnB w base (.slice (some ⟨g, 0, none⟩) l.length cap) l) (j : Nat) (hj : j < l.length) (x : UInt8) :
    OwnB (w.setCell ⟨g, j, none⟩ (.int .u8 (x.toNat : Int))) base (.slice (some ⟨g, 0, none⟩) l.length cap) (l.set j x) := by
  have := World.ownsRow.stored h j (.int .u8 (x.toNat : Int))
  unfold OwnB
  rw [List.length_set, List.map_set]
  exact this.1
/-- a datagram's bytes ahead of its sum, and with it. -/
def udp0 (an bn : Nat) (D : List UInt8) : List UInt8 := fldB [(2, an), (2, bn), (2, 8 + D.length), (2, 0)] ++ D
def udpB (h : Ip) (an bn : Nat) (D : List UInt8) : List UInt8 := ((udp0 an bn D).set 6 (b8 (((sumV h (udp0 an bn D) 6 : Nat) : Int) / 256))).set 7 (b8 ((sumV h (udp0 an bn D) 6 : Nat) : Int))

set_option maxHeartbeats 1600000 in
theorem segPutU_any (w : World) (X Y : Array Value) (h : Ip) (s : Sg) (x : IpV X h) (y : SgV Y s) (hp : h.p = 17) (sp : s.p = 17) (an bn : Nat) (ha : s.a = (an : Int)) (hb : s.b = (bn : Int)) (hr : rightS s = true) (hns : s.ns = false) (D : List UInt8) (hD : Byt w w.heap.size s.ad D) (hDl : D.length = s.nd) (hDn : s.nd ≤ 65527) (hDc : s.nd ≤ s.cd) (hnil : s.ad = none → s.cd = 0) (ho : s.ao = none ∧ s.no = 0 ∧ s.co = 0) :
    Calls Tryz.prog 16 #[.agg X, .agg Y] w fun e w' => ∃ v, e = .returned (.tuple #[v, .int .i64 0]) ∧ OwnB w' w.heap.size v (udpB h an bn D) ∧ Below w.heap.size w w' := by
  obtain ⟨W, hW⟩ : ∃ W, (w.alloc (.cells X 51)).alloc (.cells Y 55) = W := ⟨_, rfl⟩
  obtain ⟨r1, r2, hz, hbW⟩ := two_packs w X _ _ _ W hW
  have ab : an ≤ 65535 ∧ bn ≤ 65535 := by
    unfold rightS upL at hr
    rw [ha, hb] at hr
    simp at hr
    omega
  have hxs := x.size
  have hxr := x.x0
  have hys := y.size
  have hyr := y.x0
  have KR := hide (fun W1 => rightS_any W1 Y s y (by omega))
  rw [hr] at KR
  have KS := hide (fun W1 => sizeS_any W1 Y s y (by omega) (by omega))
  rw [sp, if_neg (by decide)] at KS
  have KH := hide (fun W1 => headU_any W1 Y s y sp (by omega) hDn an bn ha ab.1 hb ab.2)
  have hkeep := hide (fun (W1 : World) (b : Below W.heap.size W W1) => (⟨(b.block w.heap.size (by omega)).trans r1, (b.block (w.heap.size + 1) (by omega)).trans r2⟩ : W1.heap[w.heap.size]? = some (.cells X 51 (0, 0)) ∧ W1.heap[w.heap.size + 1]? = some (.cells Y 55 (0, 0))))
  have HXC := hide (fun (W1 : World) (r : W1.heap[w.heap.size]? = some (.cells X 51 (0, 0))) => x.cells r)
  have HYC := hide (fun (W1 : World) (r : W1.heap[w.heap.size + 1]? = some (.cells Y 55 (0, 0))) => y.cells r)
  have c35 := (x.cells r1).c35
  rw [hp] at c35
  obtain ⟨d0, d1, d2, d3, d4, d5, d6, d7, d8, d9, d10⟩ := y.cells r2
  rw [sp] at d0
  rw [hns] at d8
  have HB := hide hbW
  have HZ := hide hz
  have HW := hide hW
  have HX := hide x
  have HY := hide y
  have HD := hide hD
  have HDL := hide hDl
  clear hz hbW hW hD x y hDl
  go_enter Tryz.func16, Tryz.ntmps16
  go_upto_region 1 with (fail)
  change Code.wp _ _ _ _ ((w.alloc (.cells X 51)).alloc (.cells Y 55))
  rw [HW.out]
  go_wp2_with fail
  refine (KR.out W).mono ?_
  rintro e w1 ⟨rfl, b1⟩
  have B1 : Hid (Below W.heap.size W w1) := hide b1
  obtain ⟨t1, u1⟩ := hkeep.out w1 b1
  have cX := HXC.out w1 t1
  have cY := HYC.out w1 u1
  have c8 := cY.c8
  rw [hns] at c8
  have hsz : 8 + (s.nd : Int) ≤ 65535 := by omega
  have hO := ho
  have HO := hide ho
  clear b1 cX cY d0 d1 d2 d3 d4 d5 d6 d7 d8 d9 d10 c35 hO ho r1 r2
  dsimp only
  go_wp2_with fail
  refine (KS.out w1).mono ?_
  rintro e w2 ⟨rfl, b2⟩
  have B2 : Hid (Below W.heap.size W w2) := hide (B1.out.trans (b2.mono B1.out.size))
  obtain ⟨t2, u2⟩ := hkeep.out w2 B2.out
  clear b2 c8 t1 u1
  dsimp only
  go_wp2_with fail
  refine (KH.out w2).mono ?_
  rintro e w3 ⟨v3, rfl, o3, b3⟩
  have B3 : Hid (Below W.heap.size W w3) := hide (B2.out.trans (b3.mono B2.out.size))
  have O3 : Hid (OwnB w3 W.heap.size v3 (fldB [(2, an), (2, bn), (2, 8 + s.nd), (2, 0)])) := hide (own_low o3 B2.out.size)
  obtain ⟨t3, u3⟩ := hkeep.out w3 B3.out
  have c9 := (HYC.out w3 u3).c9
  rw [HO.out.1, HO.out.2.1, HO.out.2.2] at c9
  have hl8 : Hid ((fldB [(2, an), (2, bn), (2, 8 + s.nd), (2, 0)]).length = 8) := hide (by simp [fldB, length_numBytes])
  clear b3 o3 t2 u2
  dsimp only
  go_wp2_with (at_builtin; refine wpList_app_bytes rfl (.tmp 40) (.tmp 42) rfl W.heap.size v3 _ [] 0 0 none rfl rfl (by exact O3.out) (Byt.nil _ _ _) (fun _ => rfl) (by have := hl8.out; simp; omega) B3.out.size ?_)
  intro v4 w4 o4 g4 a4
  have B4 : Hid (Below W.heap.size W w4) := hide (B3.out.grown g4 B3.out.size (fun k hk => (World.ownsRow.lt O3.out k hk).1))
  have O4 : Hid (OwnB w4 W.heap.size v4 (fldB [(2, an), (2, bn), (2, 8 + s.nd), (2, 0)])) := hide (by simpa using o4)
  obtain ⟨t4, u4⟩ := hkeep.out w4 B4.out
  have c10 := (HYC.out w4 u4).c10
  rw [← HDL.out] at c10
  have HDb : Hid (Byt w4 w.heap.size s.ad D) := hide (HD.out.below (HB.out.trans (B4.out.mono HB.out.size)))
  clear o4 g4 a4 t3 u3 c9
  go_wp2_with (at_builtin; refine wpList_app_bytes rfl (.tmp 44) (.tmp 46) rfl W.heap.size v4 _ D w.heap.size s.cd s.ad rfl rfl (by exact O4.out) (by exact HDb.out) hnil (by have := hl8.out; have := HDL.out; omega) B4.out.size ?_)
  intro v5 w5 o5 g5 a5
  have B5 : Hid (Below W.heap.size W w5) := hide (B4.out.grown g5 B4.out.size (fun k hk => (World.ownsRow.lt O4.out k hk).1))
  obtain ⟨L, hL⟩ : ∃ L, L = udp0 an bn D := ⟨_, rfl⟩
  have hown : OwnB w5 W.heap.size v5 L := by
    rw [hL]; unfold udp0; rw [HDL.out]; exact o5
  have hLn : L.length = 8 + D.length := by
    rw [hL]; unfold udp0; rw [List.length_append, HDL.out, hl8.out]
  have HL := hide hL
  obtain ⟨t5, u5⟩ := hkeep.out w5 B5.out
  have d8 := (HYC.out w5 u5).c8
  rw [hns] at d8
  have d0 := (HYC.out w5 u5).c0
  rw [sp] at d0
  clear o5 g5 a5 t4 u4 c10 hL
  obtain ⟨g, cap, hv5, hbg⟩ : ∃ g cap, v5 = .slice (some ⟨g, 0, none⟩) L.length cap ∧ W.heap.size ≤ g := by
    rcases hown.2 with ⟨_, h0⟩ | ⟨g, cap, cur, e, hbg, -⟩
    · omega
    · exact ⟨g, cap, e, hbg⟩
  subst hv5
  obtain ⟨A', c', hv', hlc, hby, -, -⟩ := hown.shape
  cases hv'
  have hL65 : L.length ≤ 65535 := by have := HDL.out; omega
  obtain ⟨N, hN⟩ : ∃ N, N = sumV h L 6 := ⟨_, rfl⟩
  have KU : Hid (∀ W1 : World, Below w5.heap.size w5 W1 → Calls Tryz.prog 34 #[.agg X, .slice (some ⟨g, 0, none⟩) L.length cap] W1 fun e w' => e = .returned (.int .u16 (N : Int)) ∧ Below W1.heap.size W1 w') := hide (fun W1 hb1 => by
    have k := sumS_any W1 X h HX.out (some ⟨g, 0, none⟩) cap L ((hby.below hb1).more hb1.size) hlc (by omega) (by rw [hp, if_neg (by decide)]; omega)
    rw [hp, if_neg (by decide), ← hN] at k
    exact k)
  have KA6 := hide (fun (W1 : World) => sumAt_any W1 17)
  rw [if_neg (by decide)] at KA6
  have hk5 := hide (fun (W1 : World) (b : Below w5.heap.size w5 W1) => (⟨(hkeep.out W1 (B5.out.trans (b.mono B5.out.size))).1, (World.cell?_of_block (w := w5) (b.block (w.heap.size + 1) (Array.getElem?_eq_some_iff.1 u5).1)).trans d0⟩ : W1.heap[w.heap.size]? = some (.cells X 51 (0, 0)) ∧ W1.cell? ⟨w.heap.size + 1, 0, none⟩ = some (.int .i64 17)))
  have t5d := (hk5.out w5.drew (Below.refl _ _).drew).1
  have d0d := (hk5.out w5.drew (Below.refl _ _).drew).2
  have HOWN := hide hown
  have HLN := hide hLn
  have HL65 := hide hL65
  have HBG := hide hbg
  have HNN := hide hN
  clear hown hby hlc hN hbg hLn hL65
  go_wp2_with fail
  go_region_held3 (fun w' => w'.heap[w.heap.size]? = some (.cells X 51 (0, 0)) ∧ w'.cell? ⟨w.heap.size + 1, 0, none⟩ = some (.int .i64 17))
    (first | exact ⟨t5d, d0d⟩ | exact ⟨t6, d6⟩ | fail)
    (first
      | (go_at_call 34; (with_reducible refine (KU.out w5.drew (Below.refl _ _).drew).mono ?_); rintro e w6 ⟨rfl, b6⟩; have B6 : Hid (Below w5.heap.size w5 w6) := hide (below_undrew' b6); obtain ⟨t6, d6⟩ := hk5.out w6 B6.out; clear b6)
      | (go_at_call 35; (with_reducible refine (KA6.out w6).mono ?_); rintro e w7 ⟨rfl, rfl⟩)
      | fail)
  all_goals (
    have hO6 : OwnB w6 W.heap.size (.slice (some ⟨g, 0, none⟩) L.length cap) L := World.ownsRow.kept HOWN.out (below_row B6.out none) (Classical.em _)
    have hL8 : 8 ≤ L.length := by have := HLN.out; omega
    obtain ⟨x6, hx6⟩ : ∃ u, u = b8 ((N : Int) / 256) := ⟨_, rfl⟩
    obtain ⟨x7, hx7⟩ : ∃ u, u = b8 (N : Int) := ⟨_, rfl⟩
    have e6 := b8_eq ((N : Int) / 256)
    have e7 := b8_eq (N : Int)
    rw [← hx6] at e6
    rw [← hx7] at e7
    have HX6 := hide hx6
    have HX7 := hide hx7
    have f6 := hO6.frozenAt 6
    have hc6 : ∃ u, w6.cell? ⟨g, 6, none⟩ = some u := ⟨_, (hO6.cellAt 6 (by omega)).trans (List.getElem?_eq_getElem (by simp; omega))⟩
    obtain ⟨u6, c6⟩ := hc6
    have ho2 := putByte hO6 6 (by omega) x6
    have g2 := (World.ownsRow.stored hO6 6 (.int .u8 (x6.toNat : Int))).2
    obtain ⟨w8, hw8⟩ : ∃ w', w6.setCell ⟨g, 6, none⟩ (.int .u8 (x6.toNat : Int)) = w' := ⟨_, rfl⟩
    have ho2' : OwnB w8 W.heap.size (.slice (some ⟨g, 0, none⟩) (L.set 6 x6).length cap) (L.set 6 x6) := by rw [← hw8, List.length_set]; exact ho2
    rw [hw8] at g2
    have f7 := ho2'.frozenAt 7
    have hc7 : ∃ u, w8.cell? ⟨g, 7, none⟩ = some u := ⟨_, (ho2'.cellAt 7 (by simp; omega)).trans (List.getElem?_eq_getElem (by simp; omega))⟩
    obtain ⟨u7, c7⟩ := hc7
    have ho3 := putByte ho2' 7 (by simp; omega) x7
    have g3 := (World.ownsRow.stored ho2' 7 (.int .u8 (x7.toNat : Int))).2
    obtain ⟨w9, hw9⟩ : ∃ w', w8.setCell ⟨g, 7, none⟩ (.int .u8 (x7.toNat : Int)) = w' := ⟨_, rfl⟩
    have ho3' : OwnB w9 W.heap.size (.slice (some ⟨g, 0, none⟩) L.length cap) ((L.set 6 x6).set 7 x7) := by rw [← hw9]; rw [List.length_set] at ho3; exact ho3
    rw [hw9] at g3
    have C6 : Below W.heap.size W w6 := B5.out.trans (B6.out.mono B5.out.size)
    have C8 : Below W.heap.size W w8 := C6.grown g2 C6.size (fun k hk => by cases hk; exact HBG.out)
    have C9 : Below W.heap.size W w9 := C8.grown g3 C8.size (fun k hk => by cases hk; exact HBG.out)
    have hl6 : (6 : Int) < (L.length : Int) := by omega
    have hl7 : (7 : Int) < (L.length : Int) := by omega
    have hfin : (L.set 6 x6).set 7 x7 = udpB h an bn D := by
      unfold udpB
      rw [HX6.out, HX7.out, HNN.out, HL.out]
    have HFIN : Hid (OwnB w9 W.heap.size (.slice (some ⟨g, 0, none⟩) L.length cap) (udpB h an bn D)) := hide (by rw [← hfin]; exact ho3')
    have HC9 := hide C9
    clear hfin ho3' ho3 ho2' ho2 g2 g3 C6 C8 C9 hO6 hL8 hx6 hx7 t6 d6 t5d d0d t5 u5 d8 d0
    go_wp2
    go_ret2
    exact ⟨_, rfl, own_low HFIN.out HB.out.size, HB.out.trans (HC9.out.mono HB.out.size)⟩)
end Go.Proofs.YtihakjcccbionaaGreatDoor

end
section
/-
  The walk of segment.behind.
-/
namespace Go.Proofs.YtihakjcccbionaaGreatDoor
open Go.RowKit
attribute [local go_sem ↓] exec_span exec_put exec_build heap_alloc_new heap_old
attribute [local go_sem] spanQ_ptr spanC_some heap_of_drew heap_of_drewN rs_arr rs_ad rs_ip rs_rip rs_seg putAt_ptr putOk_ptr oldOk_some World.setRow_alloc_new
set_option maxRecDepth 100000
set_option linter.unusedVariables false
set_option linter.unusedSimpArgs false

theorem Gave.nilled (w w' : World) (A : Option Addr) (c : Nat) (hn : A = none → c = 0) (hb : ∀ x, A = some x → w.heap.size ≤ x.block) : Gave w w' A c [] := ⟨Byt.nil _ _ _, Nat.zero_le _, hn, hb⟩
def Behind (w : World) (b : List UInt8) (n hd : Nat) (e : Ending) (w' : World) : Prop := ∃ A1 c1 A2 c2, e = .returned (.tuple #[.slice A1 (hd - n) c1, .slice A2 (b.length - hd) c2]) ∧ Gave w w' A1 c1 ((b.drop n).take (hd - n)) ∧ Gave w w' A2 c2 (b.drop hd) ∧ Below w.heap.size w w'

set_option maxHeartbeats 4000000 in
theorem behindE_any (w : World) (A : Option Addr) (c : Nat) (b : List UInt8) (hby : Byt w w.heap.size A b) (hlc : b.length ≤ c) (hn : b.length ≤ 140737488355328) (h0 : 0 < b.length) :
    Calls Tryz.prog 91 #[.slice A b.length c, .int .i64 (b.length : Int), .int .i64 (b.length : Int)] w fun e w' => Behind w b b.length b.length e w' := by
  obtain ⟨bk, off, rfl, hbk, hcell⟩ := hby (by omega)
  have HF : Hid (∀ A1 c1 A2 c2 w', Gave w w' A1 c1 [] → Gave w w' A2 c2 [] → Below w.heap.size w w' → Behind w b b.length b.length (.returned (.tuple #[.slice A1 0 c1, .slice A2 0 c2])) w') := hide (fun A1 c1 A2 c2 w' g1 g2 hb => ⟨A1, c1, A2, c2, by rw [Nat.sub_self], by rw [Nat.sub_self]; exact g1, by rw [List.drop_length]; exact g2, hb⟩)
  generalize hG : Behind w b b.length b.length = G at HF ⊢
  clear hG
  obtain ⟨n, hnn⟩ : ∃ n, n = b.length := ⟨_, rfl⟩
  rw [← hnn] at hlc hn h0 ⊢
  clear hnn hcell
  have i1 : (0 : Int) ≤ (n : Int) := by omega
  have i3 : (n : Int) ≤ (c : Int) := by omega
  have hsub : IntKind.i64.wrap ((n : Int) - (n : Int)) = 0 := by rw [Int.sub_self]; rfl
  have KC := hide (fun (A' : Option Addr) (c' : Nat) => clone_any w w.heap.size A' [] c' (by simp) (Byt.nil _ _ _) (Nat.le_refl _))
  rcases Classical.em (n = c) with rfl | hnc
  all_goals (
    go_enter Tryz.func91, Tryz.ntmps91
    go_wp2_with fail
    refine (KC.out _ _).mono ?_
    rintro e w1 ⟨v1, rfl, o1, b1⟩
    have HB := hide b1
    rcases o1.2 with ⟨rfl, h0'⟩ | ⟨g, cap, cur, e, hbg, -⟩
    · have HG := hide (Gave.nilled w w1.drew none 0 (fun _ => rfl) (fun x hx => by cases hx))
      clear o1 b1 KC
      dsimp only
      go_wp2
      go_region_held3 (fun _ => True) (first | trivial | fail) (fail)
      all_goals (
        go_wp2
        exact HF.out _ _ _ _ _ HG.out HG.out HB.out.drew)
    · have e2 : v1 = .slice (some ⟨g, 0, none⟩) 0 cap := e
      subst e2
      have HG := hide (Gave.nilled w w1.drew (some ⟨g, 0, none⟩) 0 (fun _ => rfl) (fun x hx => by cases hx; exact hbg))
      have i4 : (0 : Int) ≤ (cap : Int) := by omega
      clear o1 b1 KC e hbg
      by_cases hc0 : cap = 0
      · subst hc0
        dsimp only
        go_wp2
        go_region_held3 (fun _ => True) (first | trivial | fail) (fail)
        all_goals (
          go_wp2
          exact HF.out _ _ _ _ _ HG.out HG.out HB.out.drew)
      · dsimp only
        go_wp2
        go_region_held3 (fun _ => True) (first | trivial | fail) (fail)
        all_goals (
          go_wp2
          exact HF.out _ _ _ _ _ HG.out HG.out HB.out.drew))

set_option maxHeartbeats 4000000 in
theorem behindN_any (w : World) (A : Option Addr) (c : Nat) (b : List UInt8) (n hd : Nat) (hby : Byt w w.heap.size A b) (hlc : b.length ≤ c) (hn : b.length ≤ 140737488355328) (hnb : n < b.length) (hnh : n ≤ hd) (hhl : hd ≤ b.length) :
    Calls Tryz.prog 91 #[.slice A b.length c, .int .i64 (n : Int), .int .i64 (hd : Int)] w fun e w' => Behind w b n hd e w' := by
  obtain ⟨bk, off, rfl, hbk, hcell⟩ := hby (by omega)
  have hp := (⟨bk, off, rfl, hbk, hcell⟩ : ∃ b' o', (some (⟨bk, off, none⟩ : Addr)) = some ⟨b', o', none⟩ ∧ b' < w.heap.size ∧ ∀ i (h : i < b.length), w.cell? ⟨b', o' + i, none⟩ = some (.int .u8 (b[i].toNat : Int)))
  have hd0 : Byt w w.heap.size (some ⟨bk, off + n, none⟩) (b.drop n) := by
    have := Byt.part (show Byt w w.heap.size (some ⟨bk, off, none⟩) b from fun _ => hp) n (b.length - n) (by omega)
    rw [List.take_of_length_le (by rw [List.length_drop]; omega)] at this
    exact this
  have KC := clone_any w w.heap.size (some ⟨bk, off + n, none⟩) (b.drop n) (c - n) (by rw [List.length_drop]; omega) hd0 (Nat.le_refl _)
  obtain ⟨N, hN⟩ : ∃ N, N = b.length - n := ⟨_, rfl⟩
  have hbl : (b.drop n).length = N := by rw [List.length_drop, hN]
  rw [hbl] at KC
  obtain ⟨k, hk⟩ : ∃ k, k = hd - n := ⟨_, rfl⟩
  have hkN : k ≤ N := by omega
  have e1 : (hd : Int) = (n : Int) + (k : Int) := by omega
  have HF : Hid (∀ A1 c1 A2 c2 w', Gave w w' A1 c1 ((b.drop n).take k) → Gave w w' A2 c2 ((b.drop n).drop k) → Below w.heap.size w w' → Behind w b n hd (.returned (.tuple #[.slice A1 k c1, .slice A2 (N - k) c2])) w') := hide (fun A1 c1 A2 c2 w' g1 g2 hb => ⟨A1, c1, A2, c2, by rw [hN, hk, show b.length - hd = b.length - n - (hd - n) by omega], by rw [← hk]; exact g1, by rw [List.drop_drop] at g2; rw [show hd = n + k by omega]; exact g2, hb⟩)
  generalize hG : Behind w b n hd = G at HF ⊢
  clear hG
  rw [e1]
  obtain ⟨R, hR⟩ : ∃ R, R = b.drop n := ⟨_, rfl⟩
  rw [← hR] at HF KC hbl
  have hw1 : IntKind.i64.wrap ((n : Int) + (k : Int) - (n : Int)) = (k : Int) := by rw [show (n : Int) + (k : Int) - (n : Int) = (k : Int) by omega]; exact IntWalk.i64_in _ (by omega)
  have hnc : ¬ (n = c) := by omega
  have i1 : (0 : Int) ≤ (n : Int) := by omega
  have i2 : (n : Int) ≤ (b.length : Int) := by omega
  have i3 : (n : Int) ≤ (c : Int) := by omega
  have hdl : (b.length : Int) - (n : Int) = (N : Int) := by omega
  have hN0 : 0 < N := by omega
  have HKC := hide KC
  have HBL := hide hbl
  have hdn : b.length - n = N := hN.symm
  clear KC hd0 hp hcell hby e1 hk hN hnh hhl hR hbl
  go_enter Tryz.func91, Tryz.ntmps91
  go_wp2_with fail
  refine HKC.out.mono ?_
  rintro e w1 ⟨v1, rfl, o1, b1⟩
  obtain ⟨g, cap, hv1, hlc1, hg1, hgl⟩ := o1.pos (by rw [HBL.out]; exact hN0)
  rw [HBL.out] at hv1 hlc1
  subst hv1
  obtain ⟨A', c', e', -, hby1, -, -⟩ := o1.shape
  rw [HBL.out] at e'
  cases e'
  have i4 : (0 : Int) ≤ (k : Int) := by omega
  have i5 : (k : Int) ≤ (N : Int) := by omega
  have i6 : (k : Int) ≤ (cap : Int) := by omega
  have i7 : (N : Int) ≤ (cap : Int) := by omega
  have i8 : (0 : Int) ≤ (N : Int) := by omega
  have HB := hide b1
  by_cases hkN2 : k = N
  · subst hkN2
    have G1 : Hid (Gave w w1.drew (some ⟨g, 0, none⟩) k (R.take k)) := hide ⟨by rw [List.take_of_length_le (by rw [HBL.out]; exact Nat.le_refl _)]; exact hby1, by rw [List.length_take]; omega, (fun h => by cases h), (fun x hx => by cases hx; exact hg1)⟩
    have G2 : Hid (∀ A2, (∀ x, A2 = some x → w.heap.size ≤ x.block) → Gave w w1.drew A2 0 (R.drop k)) := hide (fun A2 h => by rw [List.drop_of_length_le (by rw [HBL.out]; exact Nat.le_refl _)]; exact Gave.nilled _ _ _ _ (fun _ => rfl) h)
    clear o1 b1 hby1 HKC
    dsimp only
    go_wp2
    go_region_held3 (fun _ => True) (first | trivial | fail) (fail)
    all_goals (
      go_wp2
      have hf := HF.out _ _ _ _ _ G1.out (G2.out (some ⟨g, 0, none⟩) (fun x hx => by cases hx; exact hg1)) HB.out.drew
      rw [Nat.sub_self] at hf
      exact hf)
  · have hlt : k < N := by omega
    have hs1 : (N : Int) - (k : Int) = ((N - k : Nat) : Int) := by omega
    have hk2 : ¬ (N = k) := by omega
    have G1 : Hid (Gave w w1.drew (some ⟨g, 0, none⟩) k (R.take k)) := hide ⟨hby1.front k, by rw [List.length_take]; omega, (fun h => by cases h), (fun x hx => by cases hx; exact hg1)⟩
    have G2 : Hid (Gave w w1.drew (some ⟨g, 0 + k, none⟩) (N - k) (R.drop k)) := hide ⟨hby1.cut k, by rw [List.length_drop, HBL.out]; exact Nat.le_refl _, (fun h => by cases h), (fun x hx => by cases hx; exact hg1)⟩
    rw [Nat.zero_add] at G2
    clear o1 b1 hby1 HKC hg1
    dsimp only
    by_cases hk0 : k = 0
    · subst hk0
      go_wp2
      go_region_held3 (fun _ => True) (first | trivial | fail) (fail)
      all_goals (
        go_wp2
        exact HF.out _ _ _ _ _ G1.out G2.out HB.out.drew)
    · go_wp2
      go_region_held3 (fun _ => True) (first | trivial | fail) (fail)
      all_goals (
        go_wp2
        exact HF.out _ _ _ _ _ G1.out G2.out HB.out.drew)
/-- behind, whatever is left behind the numbers. -/
theorem behindS_any (w : World) (A : Option Addr) (c : Nat) (b : List UInt8) (n hd : Nat) (hby : Byt w w.heap.size A b) (hlc : b.length ≤ c) (hn : b.length ≤ 140737488355328) (hnh : n ≤ hd) (hhl : hd ≤ b.length) (h0 : 0 < b.length) :
    Calls Tryz.prog 91 #[.slice A b.length c, .int .i64 (n : Int), .int .i64 (hd : Int)] w fun e w' => Behind w b n hd e w' := by
  by_cases h : n < b.length
  · exact behindN_any w A c b n hd hby hlc hn h hnh hhl
  · obtain rfl : n = b.length := by omega
    obtain rfl : hd = b.length := by omega
    exact behindE_any w A c b hby hlc hn h0
end Go.Proofs.YtihakjcccbionaaGreatDoor

end
section
/-
  The walk of segment.Parse: of a datagram, of another protocol.
-/
namespace Go.Proofs.YtihakjcccbionaaGreatDoor
open Go.RowKit
attribute [local go_sem ↓] exec_span exec_put exec_build heap_alloc_new heap_old
attribute [local go_sem] spanQ_ptr spanC_some heap_of_drew heap_of_drewN rs_arr rs_ad rs_ip rs_rip rs_seg putAt_ptr putOk_ptr oldOk_some World.setRow_alloc_new
set_option maxRecDepth 100000
set_option linter.unusedVariables false
set_option linter.unusedSimpArgs false

theorem items_four {items : List VItem} {a b c d : Nat × List UInt8} (h : items.map (fun it => (it.N, it.b)) = [a, b, c, d]) :
    ∃ i j k l, items = [i, j, k, l] ∧ (i.N, i.b) = a ∧ (j.N, j.b) = b ∧ (k.N, k.b) = c ∧ (l.N, l.b) = d := by
  match items, h with
  | [i, j, k, l], h =>
    simp only [List.map_cons, List.map_nil, List.cons.injEq, and_true] at h
    exact ⟨i, j, k, l, rfl, h⟩
/-- what is wrong with bytes as a datagram. -/
def udpE (h : Ip) (D : List UInt8) : Int :=
  if D.length < 8 then 10 else if D.length < nmB D 4 2 then 10 else if nmB D 4 2 < D.length then 11 else if (nmB D 6 2 == 0 && !h.v) = false ∧ nmB D 6 2 ≠ sumV h D 6 then 12 else 0
def udpS (h : Ip) (D : List UInt8) (ad : Option Addr) (cd : Nat) : Sg := ⟨17, nmB D 0 2, nmB D 2 2, 0, 0, 0, 0, 0, nmB D 6 2 == 0 && !h.v, none, 0, 0, ad, D.length - 8, cd⟩
/-- what is wrong with bytes as a segment. -/
def hdT (D : List UInt8) : Nat := 4 * (nmB D 12 1 / 16)
def tcpE (h : Ip) (D : List UInt8) : Int :=
  if D.length < 20 then 10 else if hdT D < 20 ∨ nmB D 12 1 % 16 ≠ 0 then 11 else if D.length < hdT D then 10 else if nmB D 16 2 ≠ sumV h D 16 then 12 else 0
def tcpS (D : List UInt8) (ao : Option Addr) (co : Nat) (ad : Option Addr) (cd : Nat) : Sg := ⟨6, nmB D 0 2, nmB D 2 2, nmB D 4 4, nmB D 8 4, nmB D 13 1, nmB D 14 2, nmB D 18 2, false, ao, hdT D - 20, co, ad, D.length - hdT D, cd⟩
def segE (h : Ip) (D : List UInt8) : Int := if h.p = 6 then tcpE h D else if h.p = 17 then udpE h D else 14
/-- how many bytes stand ahead of the data; the options; the data; the segment that is read. -/
def hdS (h : Ip) (D : List UInt8) : Nat := if h.p = 6 then hdT D else 8
def optS (h : Ip) (D : List UInt8) : List UInt8 := if h.p = 6 then (D.drop 20).take (hdT D - 20) else []
def datS (h : Ip) (D : List UInt8) : List UInt8 := D.drop (hdS h D)
def gotS (h : Ip) (D : List UInt8) (ao : Option Addr) (co : Nat) (ad : Option Addr) (cd : Nat) : Sg := if h.p = 6 then tcpS D ao co ad cd else udpS h D ad cd
def SegIn (w w' : World) (h : Ip) (D : List UInt8) (Y : Array Value) : Prop := ∃ ao co ad cd, SgV Y (gotS h D ao co ad cd) ∧ Gave w w' ao co (optS h D) ∧ Gave w w' ad cd (datS h D)
def ParS (w : World) (h : Ip) (D : List UInt8) (e : Ending) (w' : World) : Prop := ∃ Y, e = .returned (.tuple #[.agg Y, .int .i64 (segE h D)]) ∧ Below w.heap.size w w' ∧ (segE h D ≠ 0 → Y = (sgL nSg).toArray) ∧ (segE h D = 0 → SegIn w w' h D Y)
theorem parS_err {w W : World} {h : Ip} {D : List UInt8} {E : Int} {Z : Array Value} (hZ : Z = (sgL nSg).toArray) (hE : segE h D = E) (h0 : E ≠ 0) (hb : Below w.heap.size w W) : ParS w h D (.returned (.tuple #[.agg Z, .int .i64 E])) W :=
  ⟨_, by rw [hE], hb, fun _ => hZ, fun h => absurd (hE.symm.trans h) h0⟩
theorem built_noneS : Tryz.prog.built 55 [] = some (sgL nSg).toArray := by kernel_rfl
def uSg (a b : Int) (ns : Bool) : Sg := ⟨17, a, b, 0, 0, 0, 0, 0, ns, none, 0, 0, none, 0, 0⟩
theorem built_udp (a b : Int) (ns : Bool) : Tryz.prog.built 55 [(0, .int .i64 17), (1, .int .i64 a), (2, .int .i64 b), (8, .bool ns)] = some (sgL (uSg a b ns)).toArray := by kernel_rfl
theorem sg_set10 (s : Sg) (a : Option Addr) (n c : Nat) : (sgL s).toArray.setIfInBounds 10 (.slice a n c) = (sgL { s with ad := a, nd := n, cd := c }).toArray := by
  rw [List.setIfInBounds_toArray]; rfl
theorem sg_set9 (s : Sg) (a : Option Addr) (n c : Nat) : (sgL s).toArray.setIfInBounds 9 (.slice a n c) = (sgL { s with ao := a, no := n, co := c }).toArray := by
  rw [List.setIfInBounds_toArray]; rfl
theorem nmB_two (D : List UInt8) (k : Nat) : nmB D k 2 ≤ 65535 := by
  have h1 := numS_lt ((D.drop k).take 2)
  have h2 : 256 ^ ((D.drop k).take 2).length ≤ 256 ^ 2 := Nat.pow_le_pow_right (by decide) (by rw [List.length_take]; omega)
  have h3 : (256 : Nat) ^ 2 = 65536 := by decide
  unfold nmB
  omega
theorem sumV_pos (h : Ip) (b : List UInt8) (k : Nat) (hp : h.p = 17) : sumV h b k ≠ 0 := by
  unfold sumV
  rw [hp]
  split
  · omega
  · rename_i h; exact fun e => h ⟨e, rfl⟩

/-- a datagram that is read: its data in memory of their own. -/
theorem parS_udp {w w6 w7 w8 : World} {h : Ip} {D : List UInt8} {Y8 : Array Value} {A2 : Option Addr} {c2 G z : Nat} (hE : segE h D = 0) (hp : h.p = 17) (V : SgV Y8 (gotS h D none 0 A2 c2)) (h6 : Below w.heap.size w w6) (g2 : Gave w6 w7 A2 c2 (D.drop 8)) (b7 : Below w6.heap.size w6 w7) (h78 : w7.grownBy w8 (some G)) (hG : G < w6.heap.size) (hG2 : w.heap.size ≤ G) (hz : w.heap.size ≤ z) (hz6 : z < w6.heap.size) :
    ParS w h D (.returned (.tuple #[.agg Y8, .int .i64 0])) (w8.setRow z Y8) := by
  obtain ⟨y1, y2, y3, y4⟩ := g2
  have n6 := h6.size
  have n7 := b7.size
  have n8 : w7.heap.size ≤ w8.heap.size := h78.size
  have hs := setRow_grown w8 z Y8
  have hb8 : Below w.heap.size w w8 := (h6.trans (b7.mono n6)).grown h78 (by omega) (fun i e => by cases e; exact hG2)
  have q1 : Byt w8 w7.heap.size A2 (D.drop 8) := y1.other (Nat.le_refl _) h78 (fun a e => by have := y4 a e; omega)
  have q2 : Byt (w8.setRow z Y8) w7.heap.size A2 (D.drop 8) := q1.other n8 hs (fun a e => by have := y4 a e; omega)
  refine ⟨_, by rw [hE], below_setRow hb8 hz _, fun h0 => absurd hE h0, fun _ => ⟨none, 0, A2, c2, V, ?_, ?_⟩⟩
  · unfold optS
    rw [hp]
    exact ⟨Byt.nil _ _ _, Nat.le_refl _, fun _ => rfl, fun x e => by cases e⟩
  · unfold datS hdS
    rw [hp]
    exact ⟨q2.more (by rw [size_setRow]; exact n8), y2, y3, fun x e => Nat.le_trans n6 (y4 x e)⟩
theorem heap_alloc_drew (w : World) (o : Obj) : (w.alloc o).drew.heap[w.heap.size]? = some o := heap_alloc_new w o
theorem setRow_drew (w : World) (g : Nat) (cs : Array Value) : w.drew.setRow g cs = (w.setRow g cs).drew := rfl
attribute [local go_sem ↓] heap_alloc_drew
attribute [local go_sem] setRow_drew
set_option maxHeartbeats 8000000 in
theorem parseU_any (w : World) (X : Array Value) (h : Ip) (x : IpV X h) (D : List UInt8) (hp : h.p = 17) (hD : Byt w w.heap.size h.ad D) (hDl : D.length = h.nd) (hdc : h.nd ≤ h.cd) (hm : h.nd ≤ 140737488355328) :
    Calls Tryz.prog 60 #[.agg X] w fun e w' => ParS w h D e w' := by
  have hxs := x.size
  have hxr := x.x0
  obtain ⟨W, hW⟩ : ∃ W, (w.alloc (.cells X 51)).alloc (.cells (sgL nSg).toArray 55) = W := ⟨_, rfl⟩
  obtain ⟨r1, r2, hz, hbW⟩ := two_packs w X _ _ _ W hW
  obtain ⟨Z, hZ⟩ : ∃ Z, Z = (sgL nSg).toArray := ⟨_, rfl⟩
  have hbn := built_noneS
  rw [← hZ] at r2 hbn
  have hZs : Z.size = 11 := by rw [hZ]; rfl
  have hZo : allOne Z = true := by rw [hZ]; exact nSg_ok.one
  have HZE := hide hZ
  have HXC := hide (fun (W1 : World) (r : W1.heap[w.heap.size]? = some (.cells X 51 (0, 0))) => (⟨(x.cells r).c0, hDl ▸ (x.cells r).c42⟩ : W1.cell? ⟨w.heap.size, 0, none⟩ = some (.bool h.v) ∧ W1.cell? ⟨w.heap.size, 42, none⟩ = some (.slice h.ad D.length h.cd)))
  have hkeep := hide (fun (W1 : World) (b : Below W.heap.size W W1) => (⟨(b.block w.heap.size (by omega)).trans r1, (b.block (w.heap.size + 1) (by omega)).trans r2⟩ : W1.heap[w.heap.size]? = some (.cells X 51 (0, 0)) ∧ W1.heap[w.heap.size + 1]? = some (.cells Z 55 (0, 0))))
  obtain ⟨c0, c42⟩ := HXC.out W r1
  have c42d : W.drew.cell? ⟨w.heap.size, 42, none⟩ = some (.slice h.ad D.length h.cd) := c42
  obtain ⟨RR, hRR⟩ : ∃ R, R = runS D (opsN [2, 2, 2, 2]) 0 := ⟨_, rfl⟩
  have KR : Hid (∀ (W1 : World), Below W.heap.size W W1 → ∀ (Al : Option Addr) (cl : Nat), Ops W1 W1.heap.size Al (opsN [2, 2, 2, 2]) → Calls Tryz.prog 90 #[.slice h.ad D.length h.cd, .slice Al 4 cl] W1 fun e w' => ∃ vv items, e = .returned (.tuple #[vv, .int .i64 (RR.2.1 : Int), .int .i64 (RR.2.2 : Int)]) ∧ OwnV w' W1.heap.size vv items ∧ items.map (fun it => (it.N, it.b)) = RR.1 ∧ Below W1.heap.size W1 w') := hide (fun W1 b Al cl ho => by
    rw [hRR]
    exact run_any W1 h.ad Al D h.cd cl (opsN [2, 2, 2, 2]) (by omega) (by omega) ((hD.below (hbW.trans (b.mono hbW.size))).more (Nat.le_trans hbW.size b.size)) ho (by simp [opsN]))
  have KS := hide (fun (W1 : World) (b : Below W.heap.size W W1) (h8 : 8 ≤ D.length) => sumS_any W1 X h x h.ad h.cd D ((hD.below (hbW.trans (b.mono hbW.size))).more (Nat.le_trans hbW.size b.size)) (by omega) (by omega) (by rw [hp, if_neg (by decide)]; exact h8))
  have KB := hide (fun (W1 : World) (b : Below W.heap.size W W1) (h8 : 8 ≤ D.length) => behindS_any W1 h.ad h.cd D 8 8 ((hD.below (hbW.trans (b.mono hbW.size))).more (Nat.le_trans hbW.size b.size)) (by omega) (by omega) (Nat.le_refl _) h8 (by omega))
  rw [hp, if_neg (by decide)] at KS
  obtain ⟨v, hv⟩ : ∃ v, v = h.v := ⟨_, rfl⟩
  have HV := hide hv
  have HP := hide hp
  have HB := hide hbW
  have HW := hide hW
  have HZ := hide hz
  have HM : Hid (D.length ≤ 140737488355328) := hide (by omega)
  have HRUN := runS_nums D [2, 2, 2, 2] 0 (by simp) (Nat.zero_le _)
  rw [← hRR] at HRUN
  have HRUN := hide HRUN
  rw [← hv] at c0
  have HXC : Hid (∀ W1 : World, Below W.heap.size W W1 → W1.cell? ⟨w.heap.size, 0, none⟩ = some (.bool v) ∧ W1.cell? ⟨w.heap.size, 42, none⟩ = some (.slice h.ad D.length h.cd)) := hide (fun W1 b => by rw [hv]; exact HXC.out W1 (hkeep.out W1 b).1)
  clear hRR hv hp hbW hW hz hD hDl hdc hm x r1 r2 hZ
  go_enter Tryz.func60, Tryz.ntmps60
  go_upto_region 1 with (fail)
  change Code.wp _ _ _ _ ((w.alloc (.cells X 51)).alloc (.cells (sgL nSg).toArray 55))
  rw [HW.out]
  go_region_held3 (fun w' => w'.cell? ⟨w.heap.size, 42, none⟩ = some (.slice h.ad D.length h.cd))
    (first | exact c42d | exact c42 | exact d42 | exact e42 | fail)
    (first
      | (go_at_call 67; (with_reducible refine (piecesU_any _).mono ?_); rintro e w2 ⟨v2, rfl, o2, b2⟩
         have B2 : Hid (Below W.heap.size W w2) := hide (below_undrew' b2)
         obtain ⟨Al, cl, ev, hop, -⟩ := o2.shape
         have ev' : v2 = .slice Al 4 cl := ev
         subst ev'
         clear ev
         have O2 : Hid (Ops w2 w2.heap.size Al (opsN [2, 2, 2, 2])) := hide hop
         have d42 := (HXC.out w2 B2.out).2
         clear b2 o2 hop)
      | (go_at_call 90; (with_reducible refine (KR.out w2 B2.out Al cl O2.out).mono ?_); rintro e w3 ⟨vv, items, rfl, hov, hit, b3⟩
         have B3 : Hid (Below W.heap.size W w3) := hide (B2.out.trans (b3.mono B2.out.size))
         have e42 := (HXC.out w3 B3.out).2
         have HOV := hide hov
         have HIT := hide hit
         clear b3 hov hit)
      | fail)
  all_goals (
    obtain ⟨p3, z3⟩ := hkeep.out w3 B3.out
    obtain ⟨d0, -⟩ := HXC.out w3 B3.out
    have BB3 : Hid (Below w.heap.size w w3) := hide (HB.out.trans (B3.out.mono HB.out.size))
    clear c0 c42 c42d d42
    by_cases h8 : D.length < 8
    · have hE : Hid (segE h D = 10) := hide (by unfold segE udpE; rw [HP.out, if_neg (by decide), if_pos rfl, if_pos h8])
      have hr : RR.2.2 = 10 := HRUN.out.2 (by simpa using h8)
      rw [hr]
      clear hr
      go_wp2
      have hrow := setRow_heap w3 (w.heap.size + 1) Z Z _ _ z3
      refine bodyPost_ret (results_cell_tmp (fn := Tryz.f60) Tryz.results60 _ _ (w.heap.size + 1) 55 Z (0, 0) _ rfl hrow Tryz.underlying55 rfl (by rw [hZs]; exact info_seg)) rfl ?_
      exact parS_err HZE.out hE.out (by decide) (below_setRow BB3.out (by omega) _)
    · have hRR := HRUN.out.1 (by simp; omega)
      rw [hRR] at HIT ⊢
      obtain ⟨i0, i1, i2, i3, rfl, e0, e1, e2, e3⟩ := items_four (by simpa [numsAt] using HIT.out)
      obtain ⟨Av, cv, rfl, hcv, hcell⟩ := HOV.out.shape
      obtain ⟨gg, rfl, hgg, hgl, hcc⟩ := hcell (Nat.succ_pos 3)
      obtain ⟨v0, -⟩ := hcc 0 (by simp)
      obtain ⟨v1, -⟩ := hcc 1 (by simp)
      obtain ⟨v2, -⟩ := hcc 2 (by simp)
      obtain ⟨v3, -⟩ := hcc 3 (by simp)
      simp only [Prod.mk.injEq] at e0 e1 e2 e3
      simp only [List.getElem_cons_zero, List.getElem_cons_succ, Nat.zero_mul] at v0 v1 v2 v3
      rw [e0.1] at v0
      rw [e1.1] at v1
      rw [e2.1] at v2
      rw [e3.1] at v3
      have b0 := nmB_two D 0
      have b1 := nmB_two D 2
      have b2 := nmB_two D 4
      have b3 := nmB_two D 6
      have hEE : Hid (segE h D = if D.length < nmB D 4 2 then 10 else if nmB D 4 2 < D.length then 11 else if (nmB D 6 2 == 0 && !v) = false ∧ nmB D 6 2 ≠ sumV h D 6 then 12 else 0) := hide (by unfold segE udpE; rw [HP.out, if_neg (by decide), if_pos rfl, if_neg h8, HV.out])
      have hGS : Hid (∀ ao co ad cd, gotS h D ao co ad cd = ⟨17, nmB D 0 2, nmB D 2 2, 0, 0, 0, 0, 0, nmB D 6 2 == 0 && !v, none, 0, 0, ad, D.length - 8, cd⟩) := hide (fun ao co ad cd => by unfold gotS; rw [HP.out, HV.out]; rfl)
      obtain ⟨n0, hn0⟩ : ∃ n, n = nmB D 0 2 := ⟨_, rfl⟩
      obtain ⟨n1, hn1⟩ : ∃ n, n = nmB D 2 2 := ⟨_, rfl⟩
      obtain ⟨n2, hn2⟩ : ∃ n, n = nmB D 4 2 := ⟨_, rfl⟩
      obtain ⟨n3, hn3⟩ : ∃ n, n = nmB D 6 2 := ⟨_, rfl⟩
      obtain ⟨S, hS⟩ : ∃ n, n = sumV h D 6 := ⟨_, rfl⟩
      have HS0 : Hid (S ≠ 0) := hide (by rw [hS]; exact sumV_pos h D 6 HP.out)
      have hS6 := sumV_le h D 6
      have KS := hide (fun (W1 : World) (b : Below W.heap.size W W1) => KS.out W1 b (by omega))
      have KB := hide (fun (W1 : World) (b : Below W.heap.size W W1) => KB.out W1 b (by omega))
      rw [← hS] at KS hEE hS6
      rw [← hn0] at v0 b0 hGS
      rw [← hn1] at v1 b1 hGS
      rw [← hn2] at v2 b2 hEE
      rw [← hn3] at v3 b3 hEE hGS
      have w0 : IntKind.i64.wrap (n0 : Int) = (n0 : Int) := IntWalk.i64_in _ (by omega)
      have w1 : IntKind.i64.wrap (n1 : Int) = (n1 : Int) := IntWalk.i64_in _ (by omega)
      have w2' : IntKind.i64.wrap (n2 : Int) = (n2 : Int) := IntWalk.i64_in _ (by omega)
      have w3' : IntKind.u16.wrap (n3 : Int) = (n3 : Int) := IntWalk.u16_in _ (by omega)
      have hgb := hgg
      clear hRR hn0 hn1 hn2 hn3 hS hcc hcell HOV HIT e0 e1 e2 e3 hgg HRUN KR O2
      have hcase : (n3 = 0 ∧ v = false) ∨ (n3 = 0 ∧ v = true) ∨ ¬ n3 = 0 := by
        by_cases h0 : n3 = 0
        · cases v
          · exact .inl ⟨h0, rfl⟩
          · exact .inr (.inl ⟨h0, rfl⟩)
        · exact .inr (.inr h0)
      have q0d : w3.drew.cell? ⟨gg, 4, none⟩ = some (.int .u64 (n2 : Int)) := v2
      have q1d : w3.drew.cell? ⟨gg, 6, none⟩ = some (.int .u64 (n3 : Int)) := v3
      rw [show ([i0, i1, i2, i3] : List VItem).length = 4 from rfl, show (0 + [2, 2, 2, 2].sum) = 8 from rfl]
      go_wp2_with fail
      go_region_held3 (fun w' => w'.cell? ⟨gg, 4, none⟩ = some (.int .u64 (n2 : Int)) ∧ w'.cell? ⟨gg, 6, none⟩ = some (.int .u64 (n3 : Int)))
        (first | exact ⟨q0d, q1d⟩ | exact ⟨v2, v3⟩ | fail) (fail)
      all_goals (
        have d0' : w3.drew.cell? ⟨w.heap.size, 0, none⟩ = some (.bool v) := d0
        have z3d : w3.drew.heap[w.heap.size + 1]? = some (.cells Z 55 (0, 0)) := z3
        have BD3 : Hid (Below w.heap.size w w3.drew) := hide BB3.out.drew
        have BW3 : Hid (Below W.heap.size W w3.drew) := hide B3.out.drew
        have v0d : w3.drew.cell? ⟨gg, 0, none⟩ = some (.int .u64 (n0 : Int)) := v0
        have v1d : w3.drew.cell? ⟨gg, 2, none⟩ = some (.int .u64 (n1 : Int)) := v1
        obtain ⟨p3d, -⟩ := hkeep.out w3.drew BW3.out
        have e42d := (HXC.out w3.drew BW3.out).2
        have hGG : Hid (W.heap.size ≤ gg ∧ gg < w3.drew.heap.size) := hide ⟨Nat.le_trans B2.out.size hgb, hgl⟩
        clear v0 v1 v2 v3 d0 z3 BB3 B3 p3 q0d q1d e42 hgl hgb
        generalize w3.drew = w4 at *
        rcases Nat.lt_trichotomy D.length n2 with hlt | heq | hgt
        · have hE : Hid (segE h D = 10) := hide (by rw [hEE.out, if_pos hlt])
          have hlt' : (D.length : Int) < (n2 : Int) := by omega
          rcases hcase with ⟨rfl, rfl⟩ | ⟨rfl, rfl⟩ | hn30
          all_goals (
            go_wp2_with fail
            have hrow := setRow_heap w4 (w.heap.size + 1) Z Z _ _ z3d
            refine bodyPost_ret (results_cell_tmp (fn := Tryz.f60) Tryz.results60 _ _ (w.heap.size + 1) 55 Z (0, 0) _ rfl hrow Tryz.underlying55 rfl (by rw [hZs]; exact info_seg)) rfl ?_
            exact parS_err HZE.out hE.out (by decide) (below_setRow BD3.out (by omega) _))
        · subst heq
          have hEE : Hid (segE h D = if (n3 == 0 && !v) = false ∧ n3 ≠ S then 12 else 0) := hide (by rw [hEE.out, if_neg (by omega), if_neg (by omega)])
          rcases hcase with ⟨rfl, rfl⟩ | ⟨rfl, rfl⟩ | hn30
          · have hE : Hid (segE h D = 0) := hide (by rw [hEE.out]; rfl)
            have hbu := built_udp n0 n1 true
            obtain ⟨Y, hY⟩ : ∃ Y, Y = (sgL (uSg n0 n1 true)).toArray := ⟨_, rfl⟩
            rw [← hY] at hbu
            have hYV : SgV Y (uSg n0 n1 true) := ⟨hY, Nat.succ_pos _, Nat.succ_pos _⟩
            have hYs : Y.size = 11 := hYV.size
            have hYo : allOne Y = true := hYV.one
            have HY := hide hYV
            have HYE := hide hY
            clear hY hYV
            have HS : Hid (∀ W1, Below w4.heap.size w4 W1 → W1.cell? ⟨gg, 0, none⟩ = some (.int .u64 (n0 : Int)) ∧ W1.cell? ⟨gg, 2, none⟩ = some (.int .u64 (n1 : Int))) := hide (fun W1 b => ⟨(b.cell (p := ⟨gg, 0, none⟩) hGG.out.2).trans v0d, (b.cell (p := ⟨gg, 2, none⟩) hGG.out.2).trans v1d⟩)
            go_wp2_with fail
            go_region_held3 (fun w' => w'.cell? ⟨gg, 0, none⟩ = some (.int .u64 (n0 : Int)) ∧ w'.cell? ⟨gg, 2, none⟩ = some (.int .u64 (n1 : Int)))
              (first | exact ⟨v0d, v1d⟩ | exact HS.out _ ((Below.refl _ _).alloc (Nat.le_refl _) _) | exact HS.out _ ((Below.refl _ _).drew.alloc (Nat.le_refl _) _) | exact HS.out _ ((Below.refl _ _).alloc (Nat.le_refl _) _).drew | fail) (fail)
            all_goals (
              obtain ⟨G, hG⟩ : ∃ G, G = w4.heap.size := ⟨_, rfl⟩
              obtain ⟨w6, hw6⟩ : ∃ w6, (w4.alloc (.cells Y 55)).drew = w6 := ⟨_, rfl⟩
              have rY : w6.heap[G]? = some (.cells Y 55 (0, 0)) := by rw [← hw6, hG]; exact heap_alloc_new w4 _
              have b6 : Below w4.heap.size w4 w6 := by rw [← hw6]; exact ((Below.refl _ _).alloc (Nat.le_refl _) _).drew
              have C6 : Hid (Below W.heap.size W w6) := hide (BW3.out.trans (b6.mono BW3.out.size))
              have D6 : Hid (Below w.heap.size w w6) := hide (BD3.out.trans (b6.mono BD3.out.size))
              have GW : Hid (W.heap.size ≤ G ∧ G < w6.heap.size) := hide ⟨by rw [hG]; exact BW3.out.size, (Array.getElem?_eq_some_iff.1 rY).1⟩
              have e6 := (HXC.out w6 C6.out).2
              rw [hw6, ← hG]
              clear hw6 hG b6 HS
              go_wp2_with fail
              refine (KB.out w6 C6.out).mono ?_
              rintro e w7 ⟨A1, c1, A2, c2, rfl, g1, g2, b7⟩
              have rY7 := (b7.block G GW.out.2).trans rY
              have k10 := (HY.out.cells rY7).c10
              have f10 := frozen_of_row w7 G 10 _ _ rY7
              obtain ⟨-, z7⟩ := hkeep.out w7 (C6.out.trans (b7.mono C6.out.size))
              have rY8 := heap_setCell_same w7 G 10 _ _ (.slice A2 (D.length - 8) c2) rY7
              have h78 := grown_set w7 G 10 (.slice A2 (D.length - 8) c2)
              rw [HYE.out, sg_set10] at rY8
              obtain ⟨Y8, hY8⟩ : ∃ Y8, Y8 = (sgL { uSg n0 n1 true with ad := A2, nd := D.length - 8, cd := c2 }).toArray := ⟨_, rfl⟩
              rw [← hY8] at rY8
              have V8 : SgV Y8 (gotS h D none 0 A2 c2) := by rw [hGS.out]; exact ⟨hY8, Nat.succ_pos _, Nat.succ_pos _⟩
              have Y8s : Y8.size = 11 := V8.size
              have Y8o : allOne Y8 = true := V8.one
              have Y80 : Y8.extract 0 11 = Y8 := V8.x0
              have hzl := HZ.out
              have z8 : (w7.setCell ⟨G, 10, none⟩ (.slice A2 (D.length - 8) c2)).heap[w.heap.size + 1]? = some (.cells Z 55 (0, 0)) := (h78.block (w.heap.size + 1) (Array.getElem?_eq_some_iff.1 z7).1 (by intro e; cases e; have := GW.out.1; omega)).trans z7
              have HFIN : Hid (ParS w h D (.returned (.tuple #[.agg Y8, .int .i64 0])) ((w7.setCell ⟨G, 10, none⟩ (.slice A2 (D.length - 8) c2)).setRow (w.heap.size + 1) Y8)) := hide (parS_udp hE.out HP.out V8 D6.out g2 b7 h78 GW.out.2 (by have := GW.out.1; omega) (by omega) (by have := GW.out; omega))
              obtain ⟨w8, hw8⟩ : ∃ w8, w7.setCell ⟨G, 10, none⟩ (.slice A2 (D.length - 8) c2) = w8 := ⟨_, rfl⟩
              rw [hw8] at rY8 z8 HFIN
              clear g1 g2 b7 rY rY7 z7 h78 hY8 V8 e6 hzl
              go_wp2_with fail
              have hrow := setRow_heap w8 (w.heap.size + 1) Z Y8 _ _ z8
              refine bodyPost_ret (results_cell_tmp (fn := Tryz.f60) Tryz.results60 _ _ (w.heap.size + 1) 55 Y8 (0, 0) _ rfl hrow Tryz.underlying55 rfl (by rw [Y8s]; exact info_seg)) rfl ?_
              exact HFIN.out)
          · go_wp2_with fail
            refine (KS.out _ BW3.out).mono ?_
            rintro e w5 ⟨rfl, b5⟩
            have hSE : ((0 : Int) != (S : Int)) = true := by have := HS0.out; simp; omega
            have hE : Hid (segE h D = 12) := hide (by rw [hEE.out, if_pos ⟨rfl, fun e => HS0.out e.symm⟩])
            obtain ⟨p5, z5⟩ := hkeep.out w5 (BW3.out.trans (b5.mono BW3.out.size))
            have B5 : Hid (Below w.heap.size w w5) := hide (BD3.out.trans (b5.mono BD3.out.size))
            clear b5
            dsimp only
            go_wp2_with fail
            have hrow := setRow_heap w5 (w.heap.size + 1) Z Z _ _ z5
            refine bodyPost_ret (results_cell_tmp (fn := Tryz.f60) Tryz.results60 _ _ (w.heap.size + 1) 55 Z (0, 0) _ rfl hrow Tryz.underlying55 rfl (by rw [hZs]; exact info_seg)) rfl ?_
            exact parS_err HZE.out hE.out (by decide) (below_setRow B5.out (by omega) _)
          · have hn3b : ((n3 : Int) == 0) = false := by simp; omega
            have hnb : (n3 == 0) = false := by simpa using hn30
            go_wp2_with fail
            refine (KS.out _ BW3.out).mono ?_
            rintro e w5 ⟨rfl, b5⟩
            obtain ⟨p5, z5⟩ := hkeep.out w5 (BW3.out.trans (b5.mono BW3.out.size))
            have BW5 : Hid (Below W.heap.size W w5) := hide (BW3.out.trans (b5.mono BW3.out.size))
            have B5 : Hid (Below w.heap.size w w5) := hide (BD3.out.trans (b5.mono BD3.out.size))
            have v05 := (b5.cell (p := ⟨gg, 0, none⟩) hGG.out.2).trans v0d
            have v15 := (b5.cell (p := ⟨gg, 2, none⟩) hGG.out.2).trans v1d
            have hGG5 : Hid (gg < w5.heap.size) := hide (Nat.lt_of_lt_of_le hGG.out.2 b5.size)
            clear b5 v0d v1d z3d p3d e42d
            by_cases hSE : n3 = S
            · have hSb : ((n3 : Int) != (S : Int)) = false := by simp; omega
              have hE : Hid (segE h D = 0) := hide (by rw [hEE.out, if_neg (fun e => e.2 hSE)])
              rw [hnb] at hGS
              dsimp only
              have hbu := built_udp n0 n1 false
              obtain ⟨Y, hY⟩ : ∃ Y, Y = (sgL (uSg n0 n1 false)).toArray := ⟨_, rfl⟩
              rw [← hY] at hbu
              have hYV : SgV Y (uSg n0 n1 false) := ⟨hY, Nat.succ_pos _, Nat.succ_pos _⟩
              have hYs : Y.size = 11 := hYV.size
              have hYo : allOne Y = true := hYV.one
              have HY := hide hYV
              have HYE := hide hY
              clear hY hYV
              have HS : Hid (∀ W1, Below w5.heap.size w5 W1 → W1.cell? ⟨gg, 0, none⟩ = some (.int .u64 (n0 : Int)) ∧ W1.cell? ⟨gg, 2, none⟩ = some (.int .u64 (n1 : Int))) := hide (fun W1 b => ⟨(b.cell (p := ⟨gg, 0, none⟩) hGG5.out).trans v05, (b.cell (p := ⟨gg, 2, none⟩) hGG5.out).trans v15⟩)
              go_wp2_with fail
              go_region_held3 (fun w' => w'.cell? ⟨gg, 0, none⟩ = some (.int .u64 (n0 : Int)) ∧ w'.cell? ⟨gg, 2, none⟩ = some (.int .u64 (n1 : Int)))
                (first | exact ⟨v05, v15⟩ | exact HS.out _ ((Below.refl _ _).alloc (Nat.le_refl _) _) | exact HS.out _ ((Below.refl _ _).drew.alloc (Nat.le_refl _) _) | exact HS.out _ ((Below.refl _ _).alloc (Nat.le_refl _) _).drew | fail) (fail)
              all_goals (
                obtain ⟨G, hG⟩ : ∃ G, G = w5.heap.size := ⟨_, rfl⟩
                obtain ⟨w6, hw6⟩ : ∃ w6, (w5.alloc (.cells Y 55)).drew = w6 := ⟨_, rfl⟩
                have rY : w6.heap[G]? = some (.cells Y 55 (0, 0)) := by rw [← hw6, hG]; exact heap_alloc_new w5 _
                have b6 : Below w5.heap.size w5 w6 := by rw [← hw6]; exact ((Below.refl _ _).alloc (Nat.le_refl _) _).drew
                have C6 : Hid (Below W.heap.size W w6) := hide (BW5.out.trans (b6.mono BW5.out.size))
                have D6 : Hid (Below w.heap.size w w6) := hide (B5.out.trans (b6.mono B5.out.size))
                have GW : Hid (W.heap.size ≤ G ∧ G < w6.heap.size) := hide ⟨by rw [hG]; exact BW5.out.size, (Array.getElem?_eq_some_iff.1 rY).1⟩
                have e6 := (HXC.out w6 C6.out).2
                rw [hw6, ← hG]
                clear hw6 hG b6 HS
                go_wp2_with fail
                refine (KB.out w6 C6.out).mono ?_
                rintro e w7 ⟨A1, c1, A2, c2, rfl, g1, g2, b7⟩
                have rY7 := (b7.block G GW.out.2).trans rY
                have k10 := (HY.out.cells rY7).c10
                have f10 := frozen_of_row w7 G 10 _ _ rY7
                obtain ⟨-, z7⟩ := hkeep.out w7 (C6.out.trans (b7.mono C6.out.size))
                have rY8 := heap_setCell_same w7 G 10 _ _ (.slice A2 (D.length - 8) c2) rY7
                have h78 := grown_set w7 G 10 (.slice A2 (D.length - 8) c2)
                rw [HYE.out, sg_set10] at rY8
                obtain ⟨Y8, hY8⟩ : ∃ Y8, Y8 = (sgL { uSg n0 n1 false with ad := A2, nd := D.length - 8, cd := c2 }).toArray := ⟨_, rfl⟩
                rw [← hY8] at rY8
                have V8 : SgV Y8 (gotS h D none 0 A2 c2) := by rw [hGS.out]; exact ⟨hY8, Nat.succ_pos _, Nat.succ_pos _⟩
                have Y8s : Y8.size = 11 := V8.size
                have Y8o : allOne Y8 = true := V8.one
                have Y80 : Y8.extract 0 11 = Y8 := V8.x0
                have hzl := HZ.out
                have z8 : (w7.setCell ⟨G, 10, none⟩ (.slice A2 (D.length - 8) c2)).heap[w.heap.size + 1]? = some (.cells Z 55 (0, 0)) := (h78.block (w.heap.size + 1) (Array.getElem?_eq_some_iff.1 z7).1 (by intro e; cases e; have := GW.out.1; omega)).trans z7
                have HFIN : Hid (ParS w h D (.returned (.tuple #[.agg Y8, .int .i64 0])) ((w7.setCell ⟨G, 10, none⟩ (.slice A2 (D.length - 8) c2)).setRow (w.heap.size + 1) Y8)) := hide (parS_udp hE.out HP.out V8 D6.out g2 b7 h78 GW.out.2 (by have := GW.out.1; omega) (by omega) (by have := GW.out; omega))
                obtain ⟨w8, hw8⟩ : ∃ w8, w7.setCell ⟨G, 10, none⟩ (.slice A2 (D.length - 8) c2) = w8 := ⟨_, rfl⟩
                rw [hw8] at rY8 z8 HFIN
                clear g1 g2 b7 rY rY7 z7 h78 hY8 V8 e6 hzl
                go_wp2_with fail
                have hrow := setRow_heap w8 (w.heap.size + 1) Z Y8 _ _ z8
                refine bodyPost_ret (results_cell_tmp (fn := Tryz.f60) Tryz.results60 _ _ (w.heap.size + 1) 55 Y8 (0, 0) _ rfl hrow Tryz.underlying55 rfl (by rw [Y8s]; exact info_seg)) rfl ?_
                exact HFIN.out)
            · have hSb : ((n3 : Int) != (S : Int)) = true := by simp; omega
              have hE : Hid (segE h D = 12) := hide (by rw [hEE.out, if_pos ⟨by rw [hnb]; rfl, hSE⟩])
              dsimp only
              go_wp2_with fail
              have hrow := setRow_heap w5 (w.heap.size + 1) Z Z _ _ z5
              refine bodyPost_ret (results_cell_tmp (fn := Tryz.f60) Tryz.results60 _ _ (w.heap.size + 1) 55 Z (0, 0) _ rfl hrow Tryz.underlying55 rfl (by rw [hZs]; exact info_seg)) rfl ?_
              exact parS_err HZE.out hE.out (by decide) (below_setRow B5.out (by omega) _)
        · have hE : Hid (segE h D = 11) := hide (by rw [hEE.out, if_neg (by omega), if_pos hgt])
          have hgt' : (n2 : Int) < (D.length : Int) := by omega
          rcases hcase with ⟨rfl, rfl⟩ | ⟨rfl, rfl⟩ | hn30
          all_goals (
            go_wp2_with fail
            have hrow := setRow_heap w4 (w.heap.size + 1) Z Z _ _ z3d
            refine bodyPost_ret (results_cell_tmp (fn := Tryz.f60) Tryz.results60 _ _ (w.heap.size + 1) 55 Z (0, 0) _ rfl hrow Tryz.underlying55 rfl (by rw [hZs]; exact info_seg)) rfl ?_
            exact parS_err HZE.out hE.out (by decide) (below_setRow BD3.out (by omega) _))))
end Go.Proofs.YtihakjcccbionaaGreatDoor

end
section
/-
  The walks of segment.piecesTcp, of the head of a segment of TCP, of segment.Put of TCP.
-/
namespace Go.Proofs.YtihakjcccbionaaGreatDoor
open Go.RowKit
attribute [local go_sem ↓] exec_span exec_put exec_build heap_alloc_new heap_old
attribute [local go_sem] spanQ_ptr spanC_some heap_of_drew heap_of_drewN rs_arr rs_ad rs_ip rs_rip rs_seg putAt_ptr putOk_ptr oldOk_some World.setRow_alloc_new
set_option maxRecDepth 100000
set_option linter.unusedVariables false
set_option linter.unusedSimpArgs false

def tcpN : List Nat := [2, 2, 4, 4, 1, 1, 2, 2, 2]
set_option maxHeartbeats 1000000 in
theorem piecesT_any (w : World) : Calls Tryz.prog 68 #[] w fun e w' => ∃ v, e = .returned v ∧ OwnO w' w.heap.size v (opsN tcpN) ∧ Below w.heap.size w w' := by
  have h := piecesN_any (w.alloc (.cells #[.int .i64 2, .int .i64 2, .int .i64 4, .int .i64 4, .int .i64 1, .int .i64 1, .int .i64 2, .int .i64 2, .int .i64 2] 3)) (some ⟨w.heap.size, 0, none⟩) 9 tcpN (by
    have := IntsAt.lit w .i64 [2, 2, 4, 4, 1, 1, 2, 2, 2] #[.int .i64 2, .int .i64 2, .int .i64 4, .int .i64 4, .int .i64 1, .int .i64 1, .int .i64 2, .int .i64 2, .int .i64 2] 3 rfl
    rwa [show (w.alloc (.cells #[.int .i64 2, .int .i64 2, .int .i64 4, .int .i64 4, .int .i64 1, .int .i64 1, .int .i64 2, .int .i64 2, .int .i64 2] 3)).heap.size = w.heap.size + 1 by simp]) (by simp [tcpN])
  have H := hide h
  clear h
  go_enter Tryz.func68, Tryz.ntmps68
  go_wp2_with fail
  refine H.out.mono ?_
  rintro e w2 ⟨v, rfl, ho, hb⟩
  have hb2 : Below w.heap.size w w2 := ((Below.refl w.heap.size w).alloc (Nat.le_refl _) _).trans (hb.mono (by simp))
  have ho2 : OwnO w2 w.heap.size v (opsN tcpN) := own_low ho (by simp)
  have H1 := hide hb2
  have H2 := hide ho2
  clear hb2 ho2 ho hb
  go_wp2
  go_ret
  exact ⟨_, rfl, H2.out, H1.out⟩

def tcpF (an bn q k no fn wn un : Nat) : List (Nat × Nat) := [(2, an), (2, bn), (4, q), (4, k), (1, (20 + no) / 4 * 16), (1, fn), (2, wn), (2, 0), (2, un)]
theorem tcpF_zip (an bn q k no fn wn un : Nat) : tcpN.zip [an, bn, q, k, (20 + no) / 4 * 16, fn, wn, 0, un] = tcpF an bn q k no fn wn un := rfl
def tcpI (an bn q k M fn wn un : Nat) : List Int := [(an : Int), (bn : Int), (q : Int), (k : Int), (M : Int), (fn : Int), (wn : Int), 0, (un : Int)]
theorem layT_any (W1 : World) (an bn q k no fn wn un : Nat) (Al Av : Option Addr) (cl : Nat) (ho : Ops W1 W1.heap.size Al (opsN tcpN)) (hi : IntsAt W1 W1.heap.size Av .u64 (tcpI an bn q k ((20 + no) / 4 * 16) fn wn un)) (ha : an ≤ 65535) (hb : bn ≤ 65535) (hq : q < 4294967296) (hk : k < 4294967296) (hn : no ≤ 40) (hf : fn ≤ 255) (hw : wn ≤ 65535) (hu : un ≤ 65535) :
    Calls Tryz.prog 66 #[.slice Al 9 cl, .slice Av 9 9] W1 fun e w' => ∃ v, e = .returned v ∧ OwnB w' W1.heap.size v (fldB (tcpF an bn q k no fn wn un)) ∧ Below W1.heap.size W1 w' := by
  have h := layN_any W1 Av Al 9 cl [an, bn, q, k, (20 + no) / 4 * 16, fn, wn, 0, un] tcpN ho hi (by simp) rfl (by
    intro f hf'
    rw [tcpF_zip] at hf'
    simp [tcpF] at hf'
    rcases hf' with rfl | rfl | rfl | rfl | rfl | rfl | rfl | rfl | rfl <;> simp <;> omega)
  rw [tcpF_zip] at h
  exact h.mono fun e w' ⟨A', c', h1, h2, h3⟩ => ⟨_, h1, h2, h3⟩
set_option maxHeartbeats 4000000 in
theorem headT_any (w : World) (X : Array Value) (s : Sg) (x : SgV X s) (hp : s.p = 6) (hno : s.no ≤ 40) (an bn fn wn un : Nat) (ha : s.a = (an : Int)) (ha2 : an ≤ 65535) (hb : s.b = (bn : Int)) (hb2 : bn ≤ 65535) (hf : s.f = (fn : Int)) (hf2 : fn ≤ 255) (hw : s.wn = (wn : Int)) (hw2 : wn ≤ 65535) (hu : s.u = (un : Int)) (hu2 : un ≤ 65535) :
    Calls Tryz.prog 33 #[.agg X] w fun e w' => ∃ v, e = .returned v ∧ OwnB w' w.heap.size v (fldB (tcpF an bn s.q s.k s.no fn wn un)) ∧ Below w.heap.size w w' := by
  have hxs := x.size
  have hxr := x.x0
  obtain ⟨W, hW, h1, hz, hbW⟩ := one_block w (.cells X 55)
  have HXC := hide (fun (W1 : World) (r : W1.heap[w.heap.size]? = some (.cells X 55 (0, 0))) => x.cells r)
  have hkeep := hide (fun (W1 : World) (b : Below W.heap.size W W1) => ((b.block w.heap.size (by omega)).trans h1 : W1.heap[w.heap.size]? = some (.cells X 55 (0, 0))))
  have hq0 := x.hq
  have hk0 := x.hk
  obtain ⟨q, hq⟩ : ∃ v, v = s.q := ⟨_, rfl⟩
  obtain ⟨k, hk⟩ : ∃ v, v = s.k := ⟨_, rfl⟩
  obtain ⟨no, hnn⟩ : ∃ v, v = s.no := ⟨_, rfl⟩
  have HC : Hid (∀ W1 : World, Below W.heap.size W W1 → W1.cell? ⟨w.heap.size, 0, none⟩ = some (.int .i64 6) ∧ W1.cell? ⟨w.heap.size, 1, none⟩ = some (.int .i64 (an : Int)) ∧ W1.cell? ⟨w.heap.size, 2, none⟩ = some (.int .i64 (bn : Int)) ∧ W1.cell? ⟨w.heap.size, 3, none⟩ = some (.int .u32 (q : Int)) ∧ W1.cell? ⟨w.heap.size, 4, none⟩ = some (.int .u32 (k : Int)) ∧ W1.cell? ⟨w.heap.size, 5, none⟩ = some (.int .i64 (fn : Int)) ∧ W1.cell? ⟨w.heap.size, 6, none⟩ = some (.int .i64 (wn : Int)) ∧ W1.cell? ⟨w.heap.size, 7, none⟩ = some (.int .i64 (un : Int)) ∧ W1.cell? ⟨w.heap.size, 9, none⟩ = some (.slice s.ao no s.co)) := hide (fun W1 hb1 => by
    obtain ⟨c0, c1, c2, c3, c4, c5, c6, c7, c8, c9, c10⟩ := HXC.out W1 (hkeep.out W1 hb1)
    rw [← hp, ← ha, ← hb, ← hf, ← hw, ← hu, hq, hk, hnn]
    exact ⟨c0, c1, c2, c3, c4, c5, c6, c7, c9⟩)
  rw [← hq, ← hk, ← hnn]
  rw [← hq] at hq0
  rw [← hk] at hk0
  rw [← hnn] at hno
  obtain ⟨c0, c1, c2, c3, c4, c5, c6, c7, c9⟩ := HC.out W (Below.refl _ _)
  obtain ⟨d0, d1, d2, d3, d4, d5, d6, d7, d9⟩ := HC.out W.drew (Below.refl _ _).drew
  have KL := fun (W1 : World) Al Av cl (ho : Ops W1 W1.heap.size Al (opsN tcpN)) hi => layT_any W1 an bn q k no fn wn un Al Av cl ho hi ha2 hb2 hq0 hk0 hno hf2 hw2 hu2
  obtain ⟨wd, hwd⟩ : ∃ v, v = (20 + no) / 4 := ⟨_, rfl⟩
  have hq4 : (20 + (no : Int)) / 4 = (wd : Int) := by omega
  rw [← hwd] at KL
  obtain ⟨M, hMM⟩ : ∃ v, v = wd * 16 := ⟨_, rfl⟩
  have hsh : (wd : Int) * 16 = (M : Int) := by omega
  have hM9 : M ≤ 240 := by omega
  have hwM : IntKind.u64.wrap (M : Int) = (M : Int) := IntWalk.u64_in _ (by omega)
  rw [← hMM] at KL
  have KL := hide KL
  clear hwd hMM
  have hwa : IntKind.u64.wrap (an : Int) = (an : Int) := IntWalk.u64_in _ (by omega)
  have hwb : IntKind.u64.wrap (bn : Int) = (bn : Int) := IntWalk.u64_in _ (by omega)
  have hwf : IntKind.u64.wrap (fn : Int) = (fn : Int) := IntWalk.u64_in _ (by omega)
  have hww : IntKind.u64.wrap (wn : Int) = (wn : Int) := IntWalk.u64_in _ (by omega)
  have hwu : IntKind.u64.wrap (un : Int) = (un : Int) := IntWalk.u64_in _ (by omega)
  have hwq : IntKind.u64.wrap (q : Int) = (q : Int) := IntWalk.u64_in _ (by omega)
  have hwk : IntKind.u64.wrap (k : Int) = (k : Int) := IntWalk.u64_in _ (by omega)
  have HB := hide hbW
  clear hbW hz ha hb hf hw hu hp hq hk hnn x HXC hkeep h1 hxs hxr
  go_enter Tryz.func33, Tryz.ntmps33
  go_wp2_with fail
  go_region_held3 (fun w' => w'.cell? ⟨w.heap.size, 1, none⟩ = some (.int .i64 (an : Int)) ∧ w'.cell? ⟨w.heap.size, 2, none⟩ = some (.int .i64 (bn : Int)))
    (first | exact ⟨d1, d2⟩ | exact ⟨c1, c2⟩ | fail) (fail)
  all_goals (
    go_upto_region 5 with (fail)
    rw [hq4]
    clear c0 c1 c2 c9 d0 d1 d2 d9
    obtain ⟨LIT, hLIT⟩ : ∃ L : Array Value, L = #[.int .u64 (an : Int), .int .u64 (bn : Int), .int .u64 (q : Int), .int .u64 (k : Int), .int .u64 (M : Int), .int .u64 (fn : Int), .int .u64 (wn : Int), .int .u64 0, .int .u64 (un : Int)] := ⟨_, rfl⟩
    have HLIE := hide hLIT
    have HLIT : Hid (LIT = ((tcpI an bn q k M fn wn un).map fun z => Value.int .u64 z).toArray) := hide (by rw [hLIT]; rfl)
    clear hLIT
    have HC5 : Hid (∀ W1 : World, Below W.heap.size W W1 → W1.cell? ⟨w.heap.size, 3, none⟩ = some (.int .u32 (q : Int)) ∧ W1.cell? ⟨w.heap.size, 4, none⟩ = some (.int .u32 (k : Int)) ∧ W1.cell? ⟨w.heap.size, 5, none⟩ = some (.int .i64 (fn : Int)) ∧ W1.cell? ⟨w.heap.size, 6, none⟩ = some (.int .i64 (wn : Int)) ∧ W1.cell? ⟨w.heap.size, 7, none⟩ = some (.int .i64 (un : Int))) := hide (fun W1 b => by obtain ⟨-, -, -, a3, a4, a5, a6, a7, -⟩ := HC.out W1 b; exact ⟨a3, a4, a5, a6, a7⟩)
    go_region_held3 (fun w' => w'.cell? ⟨w.heap.size, 3, none⟩ = some (.int .u32 (q : Int)) ∧ w'.cell? ⟨w.heap.size, 4, none⟩ = some (.int .u32 (k : Int)) ∧ w'.cell? ⟨w.heap.size, 5, none⟩ = some (.int .i64 (fn : Int)) ∧ w'.cell? ⟨w.heap.size, 6, none⟩ = some (.int .i64 (wn : Int)) ∧ w'.cell? ⟨w.heap.size, 7, none⟩ = some (.int .i64 (un : Int)))
      (first | exact ⟨c3, c4, c5, c6, c7⟩ | exact ⟨d3, d4, d5, d6, d7⟩ | exact ⟨e3, e4, e5, e6, e7⟩ | exact ⟨f3, f4, f5, f6, f7⟩ | exact HC5.out _ (B2.out.alloc B2.out.size _) | exact HC5.out _ ((Below.refl _ _).alloc (Nat.le_refl _) _).drew | exact HC5.out _ ((Below.refl _ _).alloc (Nat.le_refl _) _).drew.drew | exact HC5.out _ ((Below.refl _ _).alloc (Nat.le_refl _) _) | fail)
      (first
        | (go_at_call 68; (with_reducible refine (piecesT_any W.drew.drew).mono ?_); rintro e w2 ⟨v2, rfl, o2, b2⟩
           have B2 : Hid (Below W.heap.size W w2) := hide (below_undrew' (below_undrew' b2))
           obtain ⟨Al, cl, ev, hop, -⟩ := o2.shape
           have ev' : v2 = .slice Al 9 cl := ev
           subst ev'
           clear ev
           obtain ⟨-, -, -, e3, e4, e5, e6, e7, -⟩ := HC.out w2 B2.out
           have hi2 : IntsAt (w2.alloc (.cells LIT 98)) (w2.alloc (.cells LIT 98)).heap.size (some ⟨w2.heap.size, 0, none⟩) .u64 (tcpI an bn q k M fn wn un) := by
             have := IntsAt.lit w2 .u64 (tcpI an bn q k M fn wn un) LIT 98 HLIT.out
             rwa [show (w2.alloc (.cells LIT 98)).heap.size = w2.heap.size + 1 by simp]
           have b0 : Below w2.heap.size w2 (w2.alloc (.cells LIT 98)) := (Below.refl _ _).alloc (Nat.le_refl _) _
           have KL2 := hide ((KL.out (w2.alloc (.cells LIT 98)) Al (some ⟨w2.heap.size, 0, none⟩) cl (hop.more b0.size b0) hi2).mono fun e w' (h : ∃ v, e = .returned v ∧ OwnB w' (w2.alloc (.cells LIT 98)).heap.size v _ ∧ Below _ _ w') => (by obtain ⟨v, p1, p2, p3⟩ := h; exact ⟨v, p1, own_low p2 b0.size, b0.trans (p3.mono b0.size)⟩ : ∃ v, e = .returned v ∧ OwnB w' w2.heap.size v (fldB (tcpF an bn q k no fn wn un)) ∧ Below w2.heap.size w2 w'))
           rw [HLIE.out] at KL2
           clear b2 o2 hop hi2 b0)
        | (go_at_call 68; (with_reducible refine (piecesT_any (W.alloc _).drew.drew).mono ?_); rintro e w2 ⟨v2, rfl, o2, b2⟩
           have b0 : Below W.heap.size W (W.alloc (.cells LIT 98)).drew.drew := ((Below.refl _ _).alloc (Nat.le_refl _) _).drew.drew
           rw [← HLIE.out] at b2
           have B2 : Hid (Below W.heap.size W w2) := hide (b0.trans (b2.mono b0.size))
           obtain ⟨Al, cl, ev, hop, -⟩ := o2.shape
           have ev' : v2 = .slice Al 9 cl := ev
           subst ev'
           clear ev
           obtain ⟨-, -, -, e3, e4, e5, e6, e7, -⟩ := HC.out w2 B2.out
           have hi2 : IntsAt w2 w2.heap.size (some ⟨W.heap.size, 0, none⟩) .u64 (tcpI an bn q k M fn wn un) := by
             have h1 := IntsAt.lit W .u64 (tcpI an bn q k M fn wn un) LIT 98 HLIT.out
             have h2 : IntsAt w2 (W.heap.size + 1) (some ⟨W.heap.size, 0, none⟩) .u64 (tcpI an bn q k M fn wn un) := h1.below ((below_undrew' (below_undrew' b2)).mono (by simp))
             intro h0
             obtain ⟨b', o', r1, r2, r3⟩ := h2 h0
             exact ⟨b', o', r1, by have := b2.size; simp at this; omega, r3⟩
           have KL2 := hide (KL.out w2 Al (some ⟨W.heap.size, 0, none⟩) cl hop hi2)
           clear b2 o2 hop hi2 b0)
        | (go_at_call 66; (with_reducible refine (KL2.out).mono ?_); rintro e w4 ⟨v4, rfl, o4, b4⟩
           have B4 : Hid (Below W.heap.size W w4) := hide (B2.out.trans (b4.mono B2.out.size))
           obtain ⟨-, -, -, f3, f4, f5, f6, f7, -⟩ := HC.out w4 B4.out
           have O4 : Hid (OwnB w4 W.heap.size v4 (fldB (tcpF an bn q k no fn wn un))) := hide (own_low o4 B2.out.size)
           clear b4 o4)
        | fail)
    all_goals (
      go_wp2
      go_ret
      exact ⟨_, rfl, own_low O4.out HB.out.size, HB.out.trans (B4.out.mono HB.out.size)⟩))
end Go.Proofs.YtihakjcccbionaaGreatDoor

end
