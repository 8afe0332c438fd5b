/-
  The walk of Lay at whatever values and pieces.
-/
import Derived.Test.YtpbgbfmpjgkllaaLayB
import Derived.Test.YtpbgbfmpjgkllaaLay2
import Derived.Test.YtpbgbfmpjgkllaaSame
namespace Go.Proofs.Ytpbgbfmpjgkllaa
open Go.RowKit
set_option maxRecDepth 100000

/-- what is laid behind b, and the error. -/
def layS : List ((Nat × List UInt8) × (Int × Int)) → List UInt8 → List UInt8 × Nat
  | [], b => (b, 0)
  | ((N, vb), (kd, sz)) :: t, b =>
    if fitsS N vb.length kd sz = true then (if (b.length : Int) + (if kd = 4 then (vb.length : Int) else sz) ≤ 65535 then layS t (b ++ putS N vb kd sz) else ([], 3)) else ([], 1)
def layR (vs : List (Nat × List UInt8)) (ops : List (Int × Int)) : List UInt8 × Nat :=
  if 4096 < ops.length then ([], 3) else if vs.length ≠ ops.length then ([], 1) else layS (vs.zip ops) []

/-- each of their slices reads as its bytes; a nil one is empty. -/
def RdC (w : World) (B : Nat) (items : List VItem) : Prop := ∀ it ∈ items, ∃ A c, it.v = .slice A it.b.length c ∧ Byt w B A it.b ∧ (A = none → c = 0)

theorem length_putS {N : Nat} {vb : List UInt8} {kd sz : Int} (h : fitsS N vb.length kd sz = true) : ((putS N vb kd sz).length : Int) = if kd = 4 then (vb.length : Int) else sz := by
  unfold fitsS at h
  unfold putS
  by_cases h0 : kd = 0
  · subst h0
    rw [if_pos rfl] at h ⊢
    simp at h
    rw [if_neg (by decide), length_numBytes]; omega
  · rw [if_neg h0] at h ⊢
    by_cases h1 : kd = 1
    · subst h1
      simp at h
      rw [if_neg (by omega), if_neg (by omega)]; omega
    · rw [if_neg h1] at h
      by_cases h23 : kd = 2 ∨ kd = 3
      · rw [if_pos h23] at h ⊢
        simp at h
        rw [if_neg (by omega), length_zerosL]; omega
      · rw [if_neg h23] at h ⊢
        by_cases h4 : kd = 4
        · rw [if_pos h4]
        · rw [if_neg h4] at h; exact absurd h (by decide)

theorem four_at {W w' : World} {p q r s : Addr} {a b c d : Value} (hb : Below W.heap.size W w') (hp : p.block < W.heap.size) (hq : q.block < W.heap.size) (hr : r.block < W.heap.size) (hs : s.block < W.heap.size)
    (k : W.cell? p = some a ∧ W.cell? q = some b ∧ W.cell? r = some c ∧ W.cell? s = some d) : w'.cell? p = some a ∧ w'.cell? q = some b ∧ w'.cell? r = some c ∧ w'.cell? s = some d :=
  ⟨(hb.cell hp).trans k.1, (hb.cell hq).trans k.2.1, (hb.cell hr).trans k.2.2.1, (hb.cell hs).trans k.2.2.2⟩

set_option maxRecDepth 100000 in
set_option maxHeartbeats 4000000 in
theorem lay_any (w : World) (Av Ao : Option Addr) (cv co : Nat) (items : List VItem) (ops : List (Int × Int)) (hv : RdV w w.heap.size Av items) (hvB : RdC w w.heap.size items) (ho : Ops w w.heap.size Ao ops) (R : List UInt8 × Nat) (hR : R = layR (items.map fun it => (it.N, it.b)) ops) :
    Calls Try.prog 59 #[.slice Av items.length cv, .slice Ao ops.length co] w fun e w' => ∃ A c, e = .returned (.tuple #[.slice A R.1.length c, .int .i64 (R.2 : Int)]) ∧ OwnB w' w.heap.size (.slice A R.1.length c) R.1 ∧ Below w.heap.size w w' := by
  unfold layR at hR
  rw [List.length_map] at hR
  by_cases hbig : 4096 < ops.length
  · rw [if_pos hbig] at hR
    subst hR
    have hbi : (4096 : Int) < (ops.length : Int) := by omega
    go_enter Try.func59, Try.ntmps59
    go_wp2
    go_ret2
    exact ⟨none, 0, rfl, OwnB.nil _ _, Below.refl _ _⟩
  · rw [if_neg hbig] at hR
    have hbi : ¬ (4096 : Int) < (ops.length : Int) := by omega
    by_cases hne : items.length ≠ ops.length
    · rw [if_pos hne] at hR
      subst hR
      have hni : ((items.length : Int) != (ops.length : Int)) = true := by simp; omega
      clear hne hbig
      go_enter Try.func59, Try.ntmps59
      go_wp2
      go_ret2
      exact ⟨none, 0, rfl, OwnB.nil _ _, Below.refl _ _⟩
    · rw [if_neg hne] at hR
      have hnm : items.length = ops.length := by omega
      have hni : ((items.length : Int) != (ops.length : Int)) = false := by simp; omega
      obtain ⟨zs, hzs⟩ : ∃ zs, zs = (items.map fun it => (it.N, it.b)).zip ops := ⟨_, rfl⟩
      rw [← hzs] at hR
      have HR := hide hR
      have HNM := hide hnm
      have HZS := hide hzs
      clear hR hnm hzs hne hbig
      go_enter Try.func59, Try.ntmps59
      go_wp2
      go_loopw [6, 7, 8, 19] (fun v _ _ i wr => ∃ (j : Nat) (b : List UInt8), j ≤ ops.length ∧ i = .int .i64 (j : Int) ∧ OwnB wr w.heap.size v b ∧ Below w.heap.size w wr ∧ b.length ≤ 65535 ∧ Hid (R = layS (zs.drop j) b))
        (fun _ _ _ i _ => ops.length - (intOf i).toNat)
      case atStart => exact ⟨0, [], by omega, rfl, OwnB.nil _ _, Below.refl _ _, by simp, hide HR.out⟩
      case round =>
        obtain ⟨j, b, hj, rfl, hown, hb, hbl, hlay⟩ := hrel
        obtain ⟨Ab, cb, rfl, _, _, _, _⟩ := hown.shape
        by_cases hlt : j < ops.length
        · have hltv : j < items.length := by have := HNM.out; omega
          obtain ⟨bv, ov, rfl, hbv, hcv⟩ := hv (by omega)
          obtain ⟨bo, oo, rfl, hbo, hco⟩ := ho (by omega)
          obtain ⟨hv0, hv1⟩ := hcv j hltv
          obtain ⟨ho0, ho1⟩ := hco j hlt
          obtain ⟨Ai, ci, hvi, hby, hnil⟩ := hvB items[j] (List.getElem_mem hltv)
          rw [hvi] at hv1
          obtain ⟨N, hN⟩ : ∃ N, N = items[j].N := ⟨_, rfl⟩
          obtain ⟨vb, hvb⟩ : ∃ vb, vb = items[j].b := ⟨_, rfl⟩
          obtain ⟨kd, hkd⟩ : ∃ kd, kd = ops[j].1 := ⟨_, rfl⟩
          obtain ⟨sz, hsz⟩ : ∃ sz, sz = ops[j].2 := ⟨_, rfl⟩
          have hdrop : zs.drop j = ((N, vb), (kd, sz)) :: zs.drop (j + 1) := by
            have hjz : j < zs.length := by rw [HZS.out]; simp; omega
            rw [List.drop_eq_getElem_cons hjz]
            congr 1
            simp [HZS.out, hN, hvb, hkd, hsz]
          rw [← hN] at hv0
          rw [← hvb] at hv1 hby
          rw [← hkd] at ho0
          rw [← hsz] at ho1
          have hlay' := hlay.out
          rw [hdrop, layS] at hlay'
          clear hlay hdrop hN hvb hkd hsz hvi hcv hco
          have hne : ∀ k, (Value.slice Ab b.length cb).ownBlock = some k → w.heap.size ≤ k ∧ k < wr.heap.size := fun k hk => World.ownsRow.lt hown k hk
          have HNE := hide hne
          clear hne
          have HBY := hide hby
          have HNIL := hide hnil
          have v0 : wr.cell? ⟨bv, ov + j * 2, none⟩ = some (.int .u64 (N : Int)) := (hb.cell (by exact hbv)).trans hv0
          have v1 : wr.cell? ⟨bv, ov + j * 2 + 1, none⟩ = some (.slice Ai vb.length ci) := (hb.cell (by exact hbv)).trans hv1
          have o0 : wr.cell? ⟨bo, oo + j * 2, none⟩ = some (.int .i64 kd) := (hb.cell (by exact hbo)).trans ho0
          have o1 : wr.cell? ⟨bo, oo + j * 2 + 1, none⟩ = some (.int .i64 sz) := (hb.cell (by exact hbo)).trans ho1
          have hO := two_cells wr (.int .i64 kd) (.int .i64 sz) 111
          have hbW : Below wr.heap.size wr (wr.alloc (.cells #[.int .i64 kd, .int .i64 sz] 111)) := (Below.refl _ _).alloc (Nat.le_refl _) _
          have hzW : (wr.alloc (.cells #[.int .i64 kd, .int .i64 sz] 111)).heap.size = wr.heap.size + 1 := by simp
          have hownW : OwnB (wr.alloc (.cells #[.int .i64 kd, .int .i64 sz] 111)) w.heap.size (.slice Ab b.length cb) b := hown.alloc _
          have hszw := hb.size
          have hj0 : (0 : Int) ≤ (j : Int) := by omega
          have hj1 : (j : Int) < (ops.length : Int) := by omega
          have hj2 : (j : Int) < (items.length : Int) := by omega
          have hwr : IntKind.i64.wrap (65535 - (b.length : Int)) = 65535 - (b.length : Int) := wrap_in _ (by omega) (by omega)
          have HLAY := hide hlay'
          clear hv0 hv1 ho0 ho1 hby hnil hlay' hown
          go_wp2
          obtain ⟨W, hW⟩ : ∃ W, W = wr.alloc (.cells #[.int .i64 kd, .int .i64 sz] 111) := ⟨_, rfl⟩
          rw [← hW] at hO hbW hzW hownW ⊢
          have hbvW : bv < W.heap.size := by omega
          have hOW : wr.heap.size < W.heap.size := by omega
          have k0 := (hbW.cell (p := ⟨bv, ov + j * 2, none⟩) (by show bv < _; omega)).trans v0
          have k1 := (hbW.cell (p := ⟨bv, ov + j * 2 + 1, none⟩) (by show bv < _; omega)).trans v1
          obtain ⟨k2, k3⟩ := hO
          have HK := hide (And.intro k0 (And.intro k1 (And.intro k2 k3)))
          have HBW := hide (hb.trans (hbW.mono hszw))
          have HOWN := hide hownW
          clear hW v0 v1 o0 o1 hb hbW hzW hownW
          have hKeep : ∀ w' : World, Below W.heap.size W w' → w'.cell? ⟨bv, ov + j * 2, none⟩ = some (.int .u64 (N : Int)) ∧ w'.cell? ⟨bv, ov + j * 2 + 1, none⟩ = some (.slice Ai vb.length ci) ∧ w'.cell? ⟨wr.heap.size, 0, none⟩ = some (.int .i64 kd) ∧ w'.cell? ⟨wr.heap.size, 1, none⟩ = some (.int .i64 sz) := fun w' h =>
            four_at h (by exact hbvW) (by exact hbvW) (by exact hOW) (by exact hOW) HK.out
          have HKEEP := hide hKeep
          clear hKeep
          by_cases hfit : fitsS N vb.length kd sz = true
          · have hF := fun w' => fits_any w' N vb.length ci Ai kd sz
            rw [hfit] at hF
            have HF := hide hF
            have hlay2 := HLAY.out
            rw [if_pos hfit] at hlay2
            have HL2 := hide hlay2
            have HFIT := hide hfit
            clear hF hlay2 HLAY hfit
            go_region_held3 (fun w' => w'.cell? ⟨bv, ov + j * 2, none⟩ = some (.int .u64 (N : Int)) ∧ w'.cell? ⟨bv, ov + j * 2 + 1, none⟩ = some (.slice Ai vb.length ci) ∧ w'.cell? ⟨wr.heap.size, 0, none⟩ = some (.int .i64 kd) ∧ w'.cell? ⟨wr.heap.size, 1, none⟩ = some (.int .i64 sz))
              (first | go_keep)
              (first | (go_at_call 68; refine (HF.out _).mono ?_; rintro e w3 ⟨rfl, hb3⟩; have HB3 : Hid (Below W.heap.size W w3) := hide (below_undrew hb3); obtain ⟨p0, p1, p2, p3⟩ := HKEEP.out w3 HB3.out))
            clear k0 k1 k2 k3
            go_wp2
            obtain ⟨L, hL⟩ : ∃ L : Int, L = (if kd = 4 then (vb.length : Int) else sz) := ⟨_, rfl⟩
            have hG := fun w' => length_any w' N vb.length ci Ai kd sz
            have hlay3 := HL2.out
            rw [← hL] at hG hlay3
            have HG := hide hG
            have HLL := hide hL
            clear hL hG HL2
            have hLreg : ∀ w4 : World, Below W.heap.size W w4 → OwnB w4 w.heap.size (.slice Ab b.length cb) b ∧ Byt w4 w.heap.size Ai vb ∧ Below w.heap.size w w4 ∧ W.heap.size ≤ w4.heap.size := fun w4 h4 =>
              ⟨HOWN.out.kept (Below.row h4 none) (Classical.em _), HBY.out.below (HBW.out.trans (h4.mono HBW.out.size)), HBW.out.trans (h4.mono HBW.out.size), h4.size⟩
            have HREG := hide hLreg
            clear hLreg
            by_cases hfl : (b.length : Int) + L ≤ 65535
            · rw [if_pos hfl] at hlay3
              have HL3 := hide hlay3
              have hgt : L ≤ 65535 - (b.length : Int) := by omega
              clear hlay3
              go_region_held3 (fun w' => w'.cell? ⟨bv, ov + j * 2, none⟩ = some (.int .u64 (N : Int)) ∧ w'.cell? ⟨bv, ov + j * 2 + 1, none⟩ = some (.slice Ai vb.length ci) ∧ w'.cell? ⟨wr.heap.size, 0, none⟩ = some (.int .i64 kd) ∧ w'.cell? ⟨wr.heap.size, 1, none⟩ = some (.int .i64 sz))
                (first | go_keep)
                (first | (go_at_call 69; refine (HG.out _).mono ?_; rintro e w4 ⟨rfl, hb4⟩; have HB4 : Hid (Below W.heap.size W w4) := hide (HB3.out.trans ((show Below w3.heap.size w3 w4 from below_undrew hb4).mono HB3.out.size)); obtain ⟨q0, q1, q2, q3⟩ := HKEEP.out w4 HB4.out))
              clear p0 p1 p2 p3
              go_wp2
              obtain ⟨o4, y4, b4, s4⟩ := HREG.out w4 HB4.out
              have hlenF : (b.length : Int) + (if kd = 4 then (vb.length : Int) else sz) ≤ 65535 := by rw [← HLL.out]; exact hfl
              have HLENF := hide hlenF
              have hput := fun (x : World) (h1 : OwnB x w.heap.size (.slice Ab b.length cb) b) (h2 : w.heap.size ≤ x.heap.size) (h3 : Byt x w.heap.size Ai vb) => put_any x w.heap.size w.heap.size N ci (.slice Ab b.length cb) b vb Ai kd sz HFIT.out HLENF.out h1 h2 h2 h3 HNIL.out
              have HPUT := hide hput
              have hp5 : ∀ w5 : World, w4.grownBy w5 (Value.slice Ab b.length cb).ownBlock → w5.cell? ⟨bv, ov + j * 2, none⟩ = some (.int .u64 (N : Int)) ∧ w5.cell? ⟨bv, ov + j * 2 + 1, none⟩ = some (.slice Ai vb.length ci) ∧ w5.cell? ⟨wr.heap.size, 0, none⟩ = some (.int .i64 kd) ∧ w5.cell? ⟨wr.heap.size, 1, none⟩ = some (.int .i64 sz) := fun w5 hg => by
                have n1 : (Value.slice Ab b.length cb).ownBlock ≠ some bv := fun e => by have := (HNE.out bv e).1; omega
                have n2 : (Value.slice Ab b.length cb).ownBlock ≠ some wr.heap.size := fun e => by have := (HNE.out _ e).2; omega
                exact ⟨(hg.cell_far _ (by show bv < _; omega) (Ne.symm n1)).trans q0, (hg.cell_far _ (by show bv < _; omega) (Ne.symm n1)).trans q1, (hg.cell_far _ (by show wr.heap.size < _; omega) (Ne.symm n2)).trans q2, (hg.cell_far _ (by show wr.heap.size < _; omega) (Ne.symm n2)).trans q3⟩
              have HP5 := hide hp5
              have HO4 := hide o4
              have HY4 := hide y4
              have HB4w := hide b4
              clear hlenF hput hp5 o4 y4 b4
              go_region_held3 (fun w' => w'.cell? ⟨bv, ov + j * 2, none⟩ = some (.int .u64 (N : Int)) ∧ w'.cell? ⟨bv, ov + j * 2 + 1, none⟩ = some (.slice Ai vb.length ci) ∧ w'.cell? ⟨wr.heap.size, 0, none⟩ = some (.int .i64 kd) ∧ w'.cell? ⟨wr.heap.size, 1, none⟩ = some (.int .i64 sz))
                (first | go_keep)
                (first | (go_at_call 70; refine (HPUT.out _ (by exact HO4.out) (by have := HB4w.out.size; simp; omega) (by exact HY4.out)).mono ?_; rintro e w5 ⟨v5, rfl, hown5, hg5⟩; have HG5 : Hid (w4.grownBy w5 (Value.slice Ab b.length cb).ownBlock) := hide ⟨hg5.os, hg5.tape, hg5.output, hg5.size, hg5.block⟩; obtain ⟨r0, r1, r2, r3⟩ := HP5.out w5 HG5.out))
              have hb5 : Below w.heap.size w w5 := HB4w.out.grown HG5.out HB4w.out.size (fun k hk => (HNE.out k hk).1)
              have hl5 : (b ++ putS N vb kd sz).length ≤ 65535 := by
                have h1 := length_putS HFIT.out
                rw [List.length_append]
                have h2 := HLENF.out
                omega
              have HB5 := hide hb5
              have HL5 := hide hl5
              have HO5 := hide hown5
              clear q0 q1 q2 q3 r0 r1 r2 r3 hg5 hb5 hl5 hown5
              go_wp2
              go_roundw
              case rel => exact ⟨j + 1, b ++ putS N vb kd sz, by omega, by go_num, HO5.out, HB5.out, HL5.out, hide HL3.out⟩
              case measure => simp [intOf]; omega
            · rw [if_neg hfl] at hlay3
              have HL3 := hide hlay3
              have hgt : 65535 - (b.length : Int) < L := by omega
              clear hlay3
              go_region_held3 (fun w' => w'.cell? ⟨bv, ov + j * 2, none⟩ = some (.int .u64 (N : Int)) ∧ w'.cell? ⟨bv, ov + j * 2 + 1, none⟩ = some (.slice Ai vb.length ci) ∧ w'.cell? ⟨wr.heap.size, 0, none⟩ = some (.int .i64 kd) ∧ w'.cell? ⟨wr.heap.size, 1, none⟩ = some (.int .i64 sz))
                (first | go_keep)
                (first | (go_at_call 69; refine (HG.out _).mono ?_; rintro e w4 ⟨rfl, hb4⟩; have HB4 : Hid (Below W.heap.size W w4) := hide (HB3.out.trans ((show Below w3.heap.size w3 w4 from below_undrew hb4).mono HB3.out.size)); obtain ⟨q0, q1, q2, q3⟩ := HKEEP.out w4 HB4.out))
              clear p0 p1 p2 p3
              go_wp2
              go_ret2
              have hbe := HBW.out.trans (HB4.out.mono HBW.out.size)
              have he := HL3.out
              subst he
              exact ⟨none, 0, rfl, OwnB.nil _ _, hbe⟩
          · have hF := fun w' => fits_any w' N vb.length ci Ai kd sz
            rw [Bool.eq_false_iff.2 hfit] at hF
            have HF := hide hF
            have hlay2 := HLAY.out
            rw [if_neg hfit] at hlay2
            have HL2 := hide hlay2
            clear hF hlay2 HLAY hfit
            go_region_held3 (fun w' => w'.cell? ⟨bv, ov + j * 2, none⟩ = some (.int .u64 (N : Int)) ∧ w'.cell? ⟨bv, ov + j * 2 + 1, none⟩ = some (.slice Ai vb.length ci) ∧ w'.cell? ⟨wr.heap.size, 0, none⟩ = some (.int .i64 kd) ∧ w'.cell? ⟨wr.heap.size, 1, none⟩ = some (.int .i64 sz))
              (first | go_keep)
              (first | (go_at_call 68; refine (HF.out _).mono ?_; rintro e w3 ⟨rfl, hb3⟩; have HB3 : Hid (Below W.heap.size W w3) := hide (below_undrew hb3); obtain ⟨p0, p1, p2, p3⟩ := HKEEP.out w3 HB3.out))
            clear k0 k1 k2 k3
            go_wp2
            go_ret2
            have hbe := HBW.out.trans (HB3.out.mono HBW.out.size)
            have he := HL2.out
            subst he
            exact ⟨none, 0, rfl, OwnB.nil _ _, hbe⟩
        · obtain rfl : j = ops.length := by omega
          have he : R = (b, 0) := by
            have h := hlay.out
            rw [List.drop_eq_nil_of_le (by rw [HZS.out]; simp; omega), layS] at h
            exact h
          clear hlay hlt
          go_wp2
          go_ret2
          subst he
          exact ⟨Ab, cb, rfl, hown, hb⟩
end Go.Proofs.Ytpbgbfmpjgkllaa
