import Derived.Test.YtihakjcccbionaaGreatDoorMku
import Derived.Test.YtihakjcccbionaaGreatDoorMke
import Derived.Test.YtihakjcccbionaaGreatDoorMkp
import Derived.Test.YtihakjcccbionaaGreatDoorMkl
section
/-
  The walk of the document's own: the sum of a segment's bytes within a packet.
-/
namespace Go.Proofs.YtihakjcccbionaaGreatDoor
open Go.RowKit
attribute [local go_sem ↓] exec_span exec_put exec_build heap_alloc_new heap_old heap_alloc_drew
attribute [local go_sem] spanQ_ptr spanC_some heap_of_drew heap_of_drewN rs_arr rs_ad rs_ip rs_rip rs_seg rs_rseg putAt_ptr putOk_ptr oldOk_some World.setRow_alloc_new setRow_drew
set_option maxRecDepth 100000
set_option linter.unusedVariables false
set_option linter.unusedSimpArgs false

theorem addS_put (s : Nat) (b : List UInt8) (k : Nat) (hs : s ≤ 65535) (hk : k % 2 = 0) (hb : k + 2 ≤ b.length) : addS s ((b.set k 0).set (k + 1) 0) = addS (addS s (b.take k)) (b.drop (k + 2)) := by
  obtain ⟨a, x, y, d, rfl, rfl⟩ := split_at hb
  rw [set_two, List.take_left, addS_append _ _ _ hk, addS_append _ _ _ (by rfl)]
  have e : ∀ r : Nat, r ≤ 65535 → addS r [0, 0] = r := fun r hr => by
    show rnd r (0 * 256 + 0) = r
    unfold rnd
    rw [if_neg (by omega)]
    omega
  rw [e _ (addS_le _ _ hs)]
  congr 1
  rw [List.drop_append, List.drop_of_length_le (l := a) (by omega), show a.length + 2 - a.length = 2 by omega]
  rfl
set_option maxHeartbeats 1000000 in
theorem placeR_any (w : World) (p : Int) : Calls Tryz.prog 44 #[.int .i64 p] w fun e w' => e = .returned (.int .i64 (if p = 6 then 16 else 6)) ∧ w = w' := by
  by_cases hp : p = 6
  · subst hp
    go_enter Tryz.func44, Tryz.ntmps44
    go_wp2
    go_ret
    exact ⟨rfl, rfl⟩
  · have e : (p == 6) = false := by simpa using hp
    rw [if_neg hp]
    clear hp
    go_enter Tryz.func44, Tryz.ntmps44
    go_wp2
    go_ret
    exact ⟨rfl, rfl⟩
set_option maxHeartbeats 4000000 in
theorem refown5_any (w : World) (X : Array Value) (h : Ip) (x : IpV X h) (hp : h.p = 6 ∨ h.p = 17) (A : Option Addr) (c : Nat) (b : List UInt8) (hb : Byt w w.heap.size A b) (hlc : b.length ≤ c) (hn : b.length ≤ 140737488351232) (hnil : A = none → c = 0) (hat : atS h.p + 2 ≤ b.length) :
    Calls Tryz.prog 43 #[.agg X, .slice A b.length c] w fun e w' => e = .returned (.int .i64 ((sumV h b (atS h.p) : Nat) : Int)) ∧ Below w.heap.size w w' := by
  have hxs := x.size
  have hxr := x.x0
  obtain ⟨W, hW, r1, hz, hbW⟩ := one_block w (.cells X 62)
  obtain ⟨k, hk⟩ : ∃ k, k = atS h.p := ⟨_, rfl⟩
  have KP := hide (fun (W1 : World) => placeR_any W1 h.p)
  have hki : (if h.p = 6 then (16 : Int) else 6) = (k : Int) := by rw [hk]; unfold atS; split <;> rfl
  rw [hki] at KP
  rw [← hk] at hat
  have hke : k % 2 = 0 := by rw [hk]; unfold atS; split <;> rfl
  have hk16 : k ≤ 16 := by rw [hk]; unfold atS; split <;> omega
  obtain ⟨S, hS⟩ : ∃ S, S = addS (addS (pseS { h with nd := b.length }) (b.take k)) (b.drop (k + 2)) := ⟨_, rfl⟩
  have hS65 : S ≤ 65535 := by rw [hS]; exact addS_le _ _ (addS_le _ _ (pseS_le _))
  obtain ⟨R, hRR⟩ : ∃ R, R = sumV h b (atS h.p) := ⟨_, rfl⟩
  have HV : Hid (R = if 65535 - S = 0 ∧ h.p = 17 then 65535 else 65535 - S) := hide (by rw [hRR, hS, ← hk]; rfl)
  rw [← hRR]
  clear hRR
  have HSP := hide (addS_put (pseS { h with nd := b.length }) b k (pseS_le _) hke hat)
  rw [← hS] at HSP
  have c35 := (x.cells r1).c35
  have HB := hide hbW
  have HZ := hide hz
  have HX := hide x
  have HR1 := hide r1
  have HK := hide hk
  have hat' := hide hat
  obtain ⟨p, hpp⟩ : ∃ p, p = h.p := ⟨_, rfl⟩
  rw [← hpp] at c35 KP hp HV
  have HPP := hide hpp
  have HN := hide hn
  clear hbW hz x hk hki hpp hS hke hat r1
  go_enter Tryz.func43, Tryz.ntmps43
  go_wp2_with (at_builtin; refine wpList_app_bytes rfl (.tmp 8) (.tmp 9) rfl W.heap.size (.slice none 0 0) [] b w.heap.size c A rfl rfl (OwnB.nil _ _) (by exact hb.below HB.out) hnil (by simp; have := HN.out; omega) (Nat.le_refl _) ?_)
  intro v2 w2 o2 g2 a2
  have B2 : Hid (Below W.heap.size W w2) := hide ((Below.refl _ _).grown g2 (Nat.le_refl _) (fun i hi => by simp [Value.ownBlock] at hi))
  -- the appended bytes
  obtain ⟨g, cap, rfl, hlc2, hg1, hg2⟩ := o2.pos (by have := hat'.out; omega)
  have HO2 := hide o2
  have HG1 := hide hg1
  have HLC2 := hide hlc2
  have r2 := (B2.out.block w.heap.size (by have := HZ.out; omega)).trans HR1.out
  have d35 := (HX.out.cells r2).c35
  rw [← HPP.out] at d35
  clear o2 g2 a2 hg1 hg2 hlc2 c35
  go_wp2_with fail
  refine (KP.out w2).mono ?_
  rintro e w3 ⟨rfl, rfl⟩
  -- both bytes of the sum's place are zeros
  have hkl : k < b.length := by have := hat'.out; omega
  have hkl1 : k + 1 < b.length := by have := hat'.out; omega
  have hkl' : (k : Int) < (b.length : Int) := by omega
  have hkl1' : (k : Int) + 1 < (b.length : Int) := by omega
  have hkw : IntKind.i64.wrap ((k : Int) + 1) = ((k + 1 : Nat) : Int) := by rw [show (k : Int) + 1 = ((k + 1 : Nat) : Int) by omega]; exact IntWalk.i64_in _ (by omega)
  have ck : w2.cell? ⟨g, k, none⟩ = some (.int .u8 (b[k].toNat : Int)) := HO2.out.cell k hkl
  have fk : w2.frozen? ⟨g, k, none⟩ = false := HO2.out.frozen k
  have o3 := putByte HO2.out k hkl 0
  have g3 := (World.ownsRow.stored HO2.out k (.int .u8 ((0 : UInt8).toNat : Int))).2
  obtain ⟨w3, hw3⟩ : ∃ w3, w2.setCell ⟨g, k, none⟩ (.int .u8 0) = w3 := ⟨_, rfl⟩
  have hw3' : w2.setCell ⟨g, k, none⟩ (.int .u8 ((0 : UInt8).toNat : Int)) = w3 := hw3
  rw [hw3'] at o3 g3
  have hl3 : (b.set k 0).length = b.length := List.length_set
  have o3' : OwnB w3 W.heap.size (.slice (some ⟨g, 0, none⟩) (b.set k 0).length cap) (b.set k 0) := by rw [hl3]; exact o3
  obtain ⟨u1, ck1⟩ : ∃ u, w3.cell? ⟨g, k + 1, none⟩ = some u := ⟨_, o3'.cell (k + 1) (by rw [hl3]; exact hkl1)⟩
  have fk1 : w3.frozen? ⟨g, k + 1, none⟩ = false := o3'.frozen (k + 1)
  have o4 := putByte o3' (k + 1) (by rw [hl3]; exact hkl1) 0
  have g4 := (World.ownsRow.stored o3' (k + 1) (.int .u8 ((0 : UInt8).toNat : Int))).2
  obtain ⟨w4, hw4⟩ : ∃ w4, w3.setCell ⟨g, k + 1, none⟩ (.int .u8 0) = w4 := ⟨_, rfl⟩
  have hw4' : w3.setCell ⟨g, k + 1, none⟩ (.int .u8 ((0 : UInt8).toNat : Int)) = w4 := hw4
  rw [hw4'] at o4 g4
  have B3 : Below W.heap.size W w3 := B2.out.grown g3 B2.out.size (fun i e => by cases e; exact HG1.out)
  have B4 : Below W.heap.size W w4 := B3.grown g4 B3.size (fun i e => by cases e; exact HG1.out)
  have hB4 := hide B4
  have r4 := (B4.block w.heap.size (by have := HZ.out; omega)).trans HR1.out
  obtain ⟨L, hL⟩ : ∃ L, L = (b.set k 0).set (k + 1) 0 := ⟨_, rfl⟩
  have hLl : L.length = b.length := by rw [hL, List.length_set, hl3]
  have o4' : OwnB w4 W.heap.size (.slice (some ⟨g, 0, none⟩) L.length cap) L := by rw [hLl, hL]; rw [hl3] at o4; exact o4
  have HO4 := hide o4'
  have k42 := (HX.out.cells r4).c42
  have f42 := frozen_of_row w4 w.heap.size 42 _ _ r4
  have r5 := heap_setCell_same w4 w.heap.size 42 _ _ (.slice (some ⟨g, 0, none⟩) b.length cap) r4
  have g5 := grown_set w4 w.heap.size 42 (.slice (some ⟨g, 0, none⟩) b.length cap)
  rw [HX.out.eq, ip_set42 _ HX.out.ls HX.out.ld] at r5
  obtain ⟨X5, hX5⟩ : ∃ X5, X5 = (ipL (datH h (some ⟨g, 0, none⟩) b.length cap)).toArray := ⟨_, rfl⟩
  obtain ⟨w5, hw5⟩ : ∃ w5, w4.setCell ⟨w.heap.size, 42, none⟩ (.slice (some ⟨g, 0, none⟩) b.length cap) = w5 := ⟨_, rfl⟩
  have r5' : w5.heap[w.heap.size]? = some (.cells X5 62 (0, 0)) := by rw [← hw5, hX5]; exact r5
  rw [hw5] at g5
  have V5 : IpV X5 (datH h (some ⟨g, 0, none⟩) b.length cap) := ⟨hX5, HX.out.ls, HX.out.ld⟩
  have h5s := V5.size
  have h50 := V5.x0
  have o5 : OwnB w5 W.heap.size (.slice (some ⟨g, 0, none⟩) L.length cap) L := World.ownsRow.kept HO4.out g5 (.inr (by simp [Value.ownBlock]; have := HG1.out; have := HZ.out; omega))
  have B5 : Hid (Below w.heap.size w w5) := hide ((HB.out.trans (hB4.out.mono HB.out.size)).grown g5 (Nat.le_trans HB.out.size hB4.out.size) (fun i e => by cases e; exact Nat.le_refl _))
  have KS := refpseudo_any w5 X5 (datH h (some ⟨g, 0, none⟩) b.length cap) V5 (by show b.length ≤ _; have := HN.out; omega)
  have hps : pseS (datH h (some ⟨g, 0, none⟩) b.length cap) = pseS { h with nd := b.length } := rfl
  rw [hps] at KS
  have KA := hide (fun (W1 : World) (bb : Below w5.heap.size w5 W1) => refadd_any (pseS { h with nd := b.length }) (some ⟨g, 0, none⟩) cap L w5.heap.size W1 (pseS_le _) (by rw [hLl]; exact HLC2.out) (by rw [hLl]; have := HN.out; omega) ((OwnB.byt (c := cap) o5 (by exact o5.lt)).below bb))
  rw [hLl] at KA
  obtain ⟨P0, hP0⟩ : ∃ P0, P0 = pseS { h with nd := b.length } := ⟨_, rfl⟩
  rw [← hP0] at KS KA HSP
  rw [← hL] at HSP
  rw [HSP.out] at KA
  have HKS := hide KS
  have V6 := V5
  clear KS hps o5 o4' o4 o3' o3 g3 g4 g5 r5 r4 B3 B4 hw3' hw4' hL hLl hX5 V5 hP0 hl3 r2 d35
  dsimp only
  go_wp2_with fail
  refine HKS.out.mono ?_
  rintro e w6 ⟨rfl, b6⟩
  have hb6 := hide b6
  clear b6
  dsimp only
  go_wp2_with fail
  refine (KA.out w6 hb6.out).mono ?_
  rintro e w7 ⟨rfl, rfl⟩
  obtain ⟨q, hq⟩ : ∃ q : Nat, q = 65535 - S := ⟨_, rfl⟩
  have c1 : IntKind.i64.wrap (S : Int) = (S : Int) := IntWalk.i64_in _ (by omega)
  have c2 : IntKind.i64.wrap (65535 - (S : Int)) = (q : Int) := by rw [show 65535 - (S : Int) = (q : Int) by omega]; exact IntWalk.i64_in _ (by omega)
  have r6 := (hb6.out.block w.heap.size (by exact (Array.getElem?_eq_some_iff.mp r5').1)).trans r5'
  have d5 : w6.cell? ⟨w.heap.size, 35, none⟩ = some (.int .i64 p) := by rw [HPP.out]; exact (V6.cells r6).c35
  have BW := hide (B5.out.trans (hb6.out.mono B5.out.size))
  have hq1 : q = 65535 - S := hq
  clear hq r6
  rw [← hq1] at HV
  clear hq1
  dsimp only
  rcases hp with hp6 | hp6
  · have E := hide (show R = q by rw [HV.out, if_neg (by omega)])
    clear HV
    subst hp6
    go_wp2
    go_ret
    exact ⟨by rw [E.out]; rfl, BW.out⟩
  · by_cases hq0 : q = 0
    · have E := hide (show R = 65535 by rw [HV.out, if_pos ⟨hq0, hp6⟩])
      clear HV
      subst hp6 hq0
      go_wp2
      go_ret
      exact ⟨by rw [E.out]; rfl, BW.out⟩
    · have E := hide (show R = q by rw [HV.out, if_neg (by omega)])
      have hq1 : ((q : Int) == 0) = false := by simpa using (by omega : (q : Int) ≠ 0)
      clear HV
      subst hp6
      go_wp2
      go_ret
      exact ⟨by rw [E.out]; rfl, BW.out⟩
end Go.Proofs.YtihakjcccbionaaGreatDoor

end
section
/-
  The walk of the document's own Parse: of a datagram.
-/
namespace Go.Proofs.YtihakjcccbionaaGreatDoor
open Go.RowKit
attribute [local go_sem ↓] exec_span exec_put exec_build heap_alloc_new heap_old heap_alloc_drew
attribute [local go_sem] spanQ_ptr spanC_some heap_of_drew heap_of_drewN rs_arr rs_ad rs_ip rs_rip rs_seg rs_rseg putAt_ptr putOk_ptr oldOk_some World.setRow_alloc_new setRow_drew
set_option maxRecDepth 100000
set_option linter.unusedVariables false
set_option linter.unusedSimpArgs false

theorem numQ_got (l : List UInt8) (k j : Nat) (h1 : 1 ≤ j) (h8 : j ≤ 8) : numQ l k 0 (j : Int) = if k + j ≤ l.length then (k + j, nmB l k j, 0) else if k ≤ l.length then (k, 0, 10) else numQ l k 0 (j : Int) := by
  by_cases hk : k + j ≤ l.length
  · rw [if_pos hk, numQ_yes h1 h8 hk]
    rfl
  · rw [if_neg hk]
    by_cases hk2 : k ≤ l.length
    · rw [if_pos hk2]
      have hf : fitE 0 (decide (1 ≤ (j : Int)) && decide ((j : Int) ≤ 8)) l.length k (j : Int) = 10 := by
        unfold fitE
        have e1 : decide (1 ≤ (j : Int)) = true := decide_eq_true (by omega)
        have e2 : decide ((j : Int) ≤ 8) = true := decide_eq_true (by omega)
        rw [e1, e2, if_neg (by simp), if_neg (by simp), if_pos (by omega)]
      rw [numQ_no hk2 (by rw [hf]; decide), hf]
    · rw [if_neg hk2]
theorem nmB_le (D : List UInt8) (k j : Nat) : nmB D k j < 256 ^ j := by
  have h1 := numS_lt ((D.drop k).take j)
  have h2 : 256 ^ ((D.drop k).take j).length ≤ 256 ^ j := Nat.pow_le_pow_right (by decide) (by rw [List.length_take]; omega)
  unfold nmB
  omega
/-- one number of the document's own Reader: what it is, where it leaves the Reader. -/
theorem numQ_out {l : List UInt8} {k : Nat} {er : Int} {j : Nat} (h1 : 1 ≤ j) (h8 : j ≤ 8) (hk : k ≤ l.length) : ∃ k' n' er', numQ l k er (j : Int) = (k', n', er') ∧ k' ≤ l.length ∧ n' < 256 ^ j ∧ (er = 0 → k + j ≤ l.length → k' = k + j ∧ n' = nmB l k j ∧ er' = 0) ∧ (er ≠ 0 ∨ l.length < k + j → er' ≠ 0) := by
  by_cases he : er = 0
  · subst he
    by_cases hkj : k + j ≤ l.length
    · exact ⟨k + j, nmB l k j, 0, by rw [numQ_got _ _ _ h1 h8, if_pos hkj], hkj, nmB_le _ _ _, fun _ _ => ⟨rfl, rfl, rfl⟩, fun h => by omega⟩
    · exact ⟨k, 0, 10, by rw [numQ_got _ _ _ h1 h8, if_neg hkj, if_pos hk], hk, Nat.pow_pos (by decide), fun _ h => absurd h hkj, fun _ => by decide⟩
  · exact ⟨k, 0, er, numQ_err he, hk, Nat.pow_pos (by decide), fun h => absurd h he, fun _ => he⟩
/-- bytes that were taken, their block behind z. -/
def Tk (z : Nat) (W : World) (A : Option Addr) (c : Nat) (L : List UInt8) : Prop := Byt W W.heap.size A L ∧ L.length ≤ c ∧ (A = none → c = 0) ∧ ∀ a, A = some a → z < a.block
theorem Tk.grown {z i : Nat} {W W' : World} {A : Option Addr} {c : Nat} {L : List UInt8} (h : Tk z W A c L) (hg : W.grownBy W' (some i)) (hi : i ≤ z) : Tk z W' A c L :=
  ⟨(h.1.other (Nat.le_refl _) hg (fun a e => by have := h.2.2.2 a e; omega)).more hg.size, h.2⟩
theorem Tk.below {z : Nat} {W W' : World} {A : Option Addr} {c : Nat} {L : List UInt8} (h : Tk z W A c L) (hb : Below W.heap.size W W') : Tk z W' A c L :=
  ⟨(h.1.below hb).more hb.size, h.2⟩
theorem Tk.gave {z : Nat} {w W : World} {A : Option Addr} {c : Nat} {L : List UInt8} (h : Tk z W A c L) (hz : w.heap.size ≤ z) : Gave w W A c L :=
  ⟨h.1, h.2.1, h.2.2.1, fun a e => by have := h.2.2.2 a e; omega⟩
theorem takeQ_got {l : List UInt8} {k j : Nat} (hj : k + j ≤ l.length) : takeQ l k 0 (j : Int) = (k + j, (l.drop k).take j, 0) := by
  have hf : fitE 0 (decide (0 ≤ (j : Int))) l.length k (j : Int) = 0 := by
    unfold fitE
    have e1 : decide (0 ≤ (j : Int)) = true := decide_eq_true (by omega)
    rw [e1, if_neg (by simp), if_neg (by simp), if_neg (by omega)]
  unfold takeQ
  rw [if_pos hf, Int.toNat_natCast]
theorem sg_set1 (s : Sg) (a : Int) : (sgL s).toArray.setIfInBounds 1 (.int .i64 a) = (sgL { s with a := a }).toArray := by
  rw [List.setIfInBounds_toArray]; rfl
theorem sg_set2 (s : Sg) (a : Int) : (sgL s).toArray.setIfInBounds 2 (.int .i64 a) = (sgL { s with b := a }).toArray := by
  rw [List.setIfInBounds_toArray]; rfl
theorem sg_set8 (s : Sg) (a : Bool) : (sgL s).toArray.setIfInBounds 8 (.bool a) = (sgL { s with ns := a }).toArray := by
  rw [List.setIfInBounds_toArray]; rfl
theorem built_pR (p : Int) : Tryz.prog.built 64 [(0, .int .i64 p)] = some (sgL { nSg with p := p }).toArray := by kernel_rfl
end Go.Proofs.YtihakjcccbionaaGreatDoor

end
section
/-
  The walk of the document's own Parse: of a segment of TCP; of any.
-/
namespace Go.Proofs.YtihakjcccbionaaGreatDoor
open Go.RowKit
attribute [local go_sem ↓] exec_span exec_put exec_build heap_alloc_new heap_old heap_alloc_drew
attribute [local go_sem] spanQ_ptr spanC_some heap_of_drew heap_of_drewN rs_arr rs_ad rs_ip rs_rip rs_seg rs_rseg putAt_ptr putOk_ptr oldOk_some World.setRow_alloc_new setRow_drew
set_option maxRecDepth 100000
set_option linter.unusedVariables false
set_option linter.unusedSimpArgs false

theorem sg_set3 (s : Sg) (a : Nat) : (sgL s).toArray.setIfInBounds 3 (.int .u32 (a : Int)) = (sgL { s with q := a }).toArray := by
  rw [List.setIfInBounds_toArray]; rfl
theorem sg_set4 (s : Sg) (a : Nat) : (sgL s).toArray.setIfInBounds 4 (.int .u32 (a : Int)) = (sgL { s with k := a }).toArray := by
  rw [List.setIfInBounds_toArray]; rfl
theorem sg_set5 (s : Sg) (a : Int) : (sgL s).toArray.setIfInBounds 5 (.int .i64 a) = (sgL { s with f := a }).toArray := by
  rw [List.setIfInBounds_toArray]; rfl
theorem sg_set6 (s : Sg) (a : Int) : (sgL s).toArray.setIfInBounds 6 (.int .i64 a) = (sgL { s with wn := a }).toArray := by
  rw [List.setIfInBounds_toArray]; rfl
theorem sg_set7 (s : Sg) (a : Int) : (sgL s).toArray.setIfInBounds 7 (.int .i64 a) = (sgL { s with u := a }).toArray := by
  rw [List.setIfInBounds_toArray]; rfl
theorem nmB_at {D : List UInt8} {k : Nat} (hk : k < D.length) : nmB D k 1 = (D[k]).toNat := by
  unfold nmB
  rw [List.drop_eq_getElem_cons hk]
  show numS [D[k]] = _
  simp [numS]
end Go.Proofs.YtihakjcccbionaaGreatDoor

end
section
/-
  The walk of the document's own Parse.
-/
namespace Go.Proofs.YtihakjcccbionaaGreatDoor
open Go.RowKit
attribute [local go_sem ↓] exec_span exec_put exec_build heap_alloc_new heap_old heap_alloc_drew
attribute [local go_sem] spanQ_ptr spanC_some heap_of_drew heap_of_drewN rs_arr rs_ad rs_ip rs_rip rs_seg rs_rseg putAt_ptr putOk_ptr oldOk_some World.setRow_alloc_new setRow_drew
set_option maxRecDepth 100000
set_option linter.unusedVariables false
set_option linter.unusedSimpArgs false

end Go.Proofs.YtihakjcccbionaaGreatDoor

end
