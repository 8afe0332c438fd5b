/-
  The walk of the statement CursorCut: true; nothing that was there is written.
-/
import Derived.Test.YtmhoedbhfaocjaaVals
import Derived.Test.YtmhoedbhfaocjaaCutm
namespace Go.Proofs.Ytmhoedbhfaocjaa
open Go.RowKit

theorem RdB.rdC0 {w : World} {B : Nat} {l : List VItem} (h : RdB w B l) : ∀ it ∈ l, ∃ A c, it.v = .slice A it.b.length c ∧ Byt w B A it.b := fun it hit => by
  obtain ⟨A, c, e, _, hb⟩ := h it hit
  exact ⟨A, c, e, hb⟩
theorem RdC.keep {w w' : World} {B B' : Nat} {l : List VItem} (h : RdC w B l) (hB : B ≤ B') (hk : ∀ p : Addr, p.block < B → w'.cell? p = w.cell? p) : RdC w' B' l := fun it hit => by
  obtain ⟨A, c, e, hb, hn⟩ := h it hit
  exact ⟨A, c, e, (hb.keep hk).more hB, hn⟩
theorem Byt.takeN {w : World} {B : Nat} {A : Option Addr} {l : List UInt8} (h : Byt w B A l) (k : Nat) : Byt w B A (l.take k) := fun hl => by
  obtain ⟨b, off, e, hbB, hc⟩ := h (by rw [List.length_take] at hl; omega)
  exact ⟨b, off, e, hbB, fun i hi => by rw [List.length_take] at hi; rw [List.getElem_take]; exact hc i (by omega)⟩

theorem layS_len : ∀ (zs : List ((Nat × List UInt8) × (Int × Int))) (b0 b : List UInt8), layS zs b0 = (b, 0) → b0.length ≤ 65535 → b.length ≤ 65535
  | [], b0, b, h, h0 => by rw [layS] at h; injection h with h _; rw [← h]; exact h0
  | ((N, vb), (kd, sz)) :: zs, b0, b, h, h0 => by
    rw [layS] at h
    by_cases hf : fitsS N vb.length kd sz = true
    · rw [if_pos hf] at h
      by_cases hl : (b0.length : Int) + (if kd = 4 then (vb.length : Int) else sz) ≤ 65535
      · rw [if_pos hl] at h
        exact layS_len zs _ _ h (by have := length_putS hf; rw [List.length_append]; omega)
      · rw [if_neg hl] at h; injection h with _ h; exact absurd h (by decide)
    · rw [if_neg hf] at h; injection h with _ h; exact absurd h (by decide)
theorem layR_len {vs : List (Nat × List UInt8)} {ops : List (Int × Int)} {b : List UInt8} (h : layR vs ops = (b, 0)) : b.length ≤ 65535 ∧ ops.length ≤ 4096 := by
  unfold layR at h
  by_cases hbig : 4096 < ops.length
  · rw [if_pos hbig] at h; injection h with _ h; exact absurd h (by decide)
  · rw [if_neg hbig] at h
    by_cases hne : vs.length ≠ ops.length
    · rw [if_pos hne] at h; injection h with _ h; exact absurd h (by decide)
    · rw [if_neg hne] at h
      exact ⟨layS_len _ _ _ h (by simp), by omega⟩

set_option maxRecDepth 100000 in
set_option maxHeartbeats 4000000 in
theorem cursorCut_any (Av Al : Option Addr) (cv cl : Nat) (l : List VItem) (ops : List (Int × Int)) (cut : Int) (w : World) (hlen : l.length ≤ 4398046511104) (hrv : RdV w w.heap.size Av l) (hrb : RdB w w.heap.size l) (hbl : ∀ it ∈ l, it.b.length ≤ 140737488351232)
    (hops : Ops w w.heap.size Al ops) (hno : ops.length ≤ 8796093022208) :
    Calls Try.prog 6 #[.slice Av l.length cv, .slice Al ops.length cl, .int .i64 cut] w fun e w' => e = .returned (.bool true) ∧ Below w.heap.size w w' := by
  have C1 := hide (vals_any w Av cv l hlen hrv hrb hbl)
  go_enter Try.func6, Try.ntmps6
  go_wp2_with fail
  refine C1.out.mono ?_
  rintro e w1 ⟨v1, items, rfl, hr1, hc1, hm1, hb1⟩
  obtain ⟨A1, c1, rfl, hrd1⟩ := row_reads hr1
  have C2 := hide (ops_any w1 Al cl ops hno (hops.keep hb1.size (fun p hp => hb1.cell hp)))
  clear C1 hr1
  go_wp2_with fail
  refine C2.out.mono ?_
  rintro e w2 ⟨v2, rfl, ho2, hb2⟩
  obtain ⟨A2, c2, rfl, hops2, _⟩ := ho2.shape
  obtain ⟨R, hR⟩ : ∃ R, R = layR (items.map fun it => (it.N, it.b)) ops := ⟨_, rfl⟩
  have C3 := hide (lay_any w2 A1 A2 c1 c2 items ops (hrd1.keep hb2.size (fun p hp => hb2.cell hp)) (hc1.keep hb2.size (fun p hp => hb2.cell hp)) hops2 R hR)
  have HR := hide hR
  have HB2 := hide (hb1.trans (hb2.mono hb1.size))
  clear C2 ho2 hops2 hb1 hb2 hrd1 hc1 hm1 hR
  go_wp2_with fail
  refine C3.out.mono ?_
  rintro e w3 ⟨A3, c3, rfl, ho3, hb3⟩
  obtain ⟨bb, er⟩ := R
  obtain ⟨A3', c3', he3, hl3, hby3, _, _⟩ := ho3.shape
  simp only at he3 ho3 hb3 hby3 hl3
  injection he3 with e1 e2 e3
  subst e1; subst e3
  have HB3 := hide (HB2.out.trans (hb3.mono HB2.out.size))
  have hK := fun W : World => knownC_any W
  have HK := hide hK
  clear C3 hb3 HB2 hK ho3 e2
  by_cases her : er = 0
  · subst her
    have hops3 : Ops w3 w3.heap.size Al ops := hops.keep HB3.out.size (fun p hp => HB3.out.cell hp)
    obtain ⟨hbl3, hno3⟩ := layR_len HR.out.symm
    have HBY := hide hby3
    clear hby3
    go_wp2
    go_loop [9] (fun i => ∃ j : Nat, j ≤ ops.length ∧ i = .int .i64 (j : Int) ∧ Hid (∀ k (h : k < ops.length), k < j → ops[k].1 ≠ 4)) (fun i => ops.length - (intOf i).toNat)
    case atStart => exact ⟨0, by omega, rfl, hide (fun k h h0 => by omega)⟩
    case round =>
      obtain ⟨j, hj, rfl, h4⟩ := hrel
      by_cases hlt : j < ops.length
      · obtain ⟨b, off, rfl, _, hcell⟩ := hops3 (by omega)
        obtain ⟨hk, hs⟩ := hcell j hlt
        obtain ⟨kd, hkd⟩ : ∃ kd, kd = ops[j].1 := ⟨_, rfl⟩
        rw [← hkd] at hk
        have hj0 : (0 : Int) ≤ (j : Int) := by omega
        have hj1 : (j : Int) < (ops.length : Int) := by omega
        by_cases hk4 : kd = 4
        · subst hk4
          clear hcell hs hkd
          go_wp2_with fail
          refine (HK.out _).mono ?_
          rintro e w4 ⟨rfl, hb4⟩
          go_wp2
          go_ret
          exact ⟨rfl, HB3.out.trans (hb4.mono HB3.out.size)⟩
        · have hk4i : (kd == 4) = false := by simpa using hk4
          clear hcell hs
          have HKD := hide hkd
          clear hkd
          go_wp2
          go_round
          case rel => exact ⟨j + 1, by omega, by go_num, hide (fun k h hkj => by
            rcases Nat.lt_or_eq_of_le (Nat.le_of_lt_succ hkj) with h1 | h1
            · exact h4.out k h h1
            · subst h1; rw [← HKD.out]; exact hk4)⟩
          case measure => simp [intOf]; omega
      · obtain rfl : j = ops.length := by omega
        have h4a : ∀ o ∈ ops, o.1 ≠ 4 := fun o ho => by
          obtain ⟨k, hk, rfl⟩ := List.getElem_of_mem ho
          exact h4.out k hk hk
        have H4 := hide h4a
        clear h4 hlt h4a
        by_cases hb0 : bb.length = 0
        · have hbi : ((bb.length : Int) == 0) = true := by rw [hb0]; rfl
          have HB0 := hide hb0
          clear hb0
          go_wp2_with fail
          refine (HK.out _).mono ?_
          rintro e w4 ⟨rfl, hb4⟩
          go_wp2
          go_ret
          exact ⟨rfl, HB3.out.trans (hb4.mono HB3.out.size)⟩
        · have hbi : ((bb.length : Int) == 0) = false := by simp; intro h; exact hb0 (by rw [h]; rfl)
          have hKlt := count_lt cut (n := bb.length) (by omega)
          obtain ⟨K, hKK⟩ : ∃ K, K = countS cut bb.length := ⟨_, rfl⟩
          have hcount := hide (count_any cut bb.length w3 (by omega) (by omega))
          rw [← hKK] at hKlt hcount
          clear hKK
          obtain ⟨b3, off3, hA3, hb3lt, _⟩ := HBY.out (by omega)
          subst hA3
          have hbyT := HBY.out.takeN K
          have hlT : (bb.take K).length = K := by rw [List.length_take]; omega
          have HBT := hide hbyT
          have HLT := hide hlT
          have hcut := layR_cut HR.out.symm H4.out hKlt
          obtain ⟨res, hres⟩ : ∃ res, res = runS (bb.take K) ops 0 := ⟨_, rfl⟩
          rw [← hres] at hcut
          have HRES := hide hres
          have HCUT := hide hcut
          clear hbyT hlT hcut hres hb0
          go_wp2_with fail
          refine hcount.out.mono ?_
          rintro e w4 ⟨rfl, rfl⟩
          have hK0 : (0 : Int) ≤ (K : Int) := by omega
          have hKc : (K : Int) ≤ (c3 : Int) := by omega
          clear hcount
          go_wp2
          go_region_held3 (fun _ => True) (first | trivial | go_keep)
            (first
              | (go_at_call 17
                 refine (ops_any _ Al cl ops hno (by exact hops3)).mono ?_
                 rintro e w5 ⟨v5, rfl, ho5, hb5⟩
                 have HB5 : Hid (Below w3.heap.size w3 w5) := hide (below_undrew hb5)
                 obtain ⟨A5, c5, rfl, hops5, _⟩ := ho5.shape
                 have C6 := run_any w5 (some ⟨b3, off3, none⟩) A5 (bb.take K) c3 c5 ops (by rw [HLT.out]; omega) (by rw [HLT.out]; omega) ((HBT.out.below HB5.out).more HB5.out.size) hops5 (by omega)
                 rw [HLT.out, ← HRES.out] at C6
                 have HC6 := hide C6
                 clear C6 ho5 hops5 hb5)
              | (go_at_call 16
                 refine (HC6.out).mono ?_
                 rintro e w6 ⟨vv, items6, rfl, hov6, hit6, hb6⟩
                 have HB6 : Hid (Below w5.heap.size w5 w6) := hide hb6
                 clear hov6 hit6 hb6))
          obtain ⟨_, h10, hn⟩ := HCUT.out
          obtain ⟨n, hn0⟩ : ∃ n, n = res.2.1 := ⟨_, rfl⟩
          rw [h10, ← hn0]
          rw [← hn0] at hn
          have hnk : (n : Int) ≤ (K : Int) := by omega
          have HB6w := hide (HB3.out.trans ((HB5.out.trans (HB6.out.mono HB5.out.size)).mono HB3.out.size))
          clear hn0 h10 hn HC6
          go_wp2_with fail
          refine (HK.out _).mono ?_
          rintro e w7 ⟨rfl, hb7⟩
          go_wp2
          go_ret
          exact ⟨rfl, HB6w.out.trans (hb7.mono HB6w.out.size)⟩
  · have hei : ((er : Int) != 0) = true := by simp; omega
    go_wp2_with fail
    refine (HK.out _).mono ?_
    rintro e w4 ⟨rfl, hb4⟩
    go_wp2
    go_ret
    exact ⟨rfl, HB3.out.trans (hb4.mono HB3.out.size)⟩
end Go.Proofs.Ytmhoedbhfaocjaa
