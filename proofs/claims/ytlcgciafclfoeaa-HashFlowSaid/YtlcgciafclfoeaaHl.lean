/-
  The walks of the statements HashMix, HashApart, HashSip, HashShort.
-/
import Derived.Test.YtlcgciafclfoeaaMha
import Derived.Test.YtlcgciafclfoeaaLent
namespace Go.Proofs.Ytlcgciafclfoeaa
open Go.RowKit
set_option linter.unusedVariables false

theorem eq_u (x : BitVec 64) : (((x.toNat : Int)) == (x.toNat : Int)) = true := by simp
theorem ne_u {x y : BitVec 64} (h : x ≠ y) : (((x.toNat : Int)) == (y.toNat : Int)) = false := by
  have h2 : x.toNat ≠ y.toNat := fun e => h (BitVec.eq_of_toNat_eq e)
  have h3 : ¬ ((x.toNat : Int) = (y.toNat : Int)) := by omega
  simp [h3]
theorem ne_u' {x y : BitVec 64} (h : x ≠ y) : (((x.toNat : Int)) != (y.toNat : Int)) = true := by
  simp only [bne, ne_u h]; rfl

set_option maxHeartbeats 1000000 in
theorem hashMix_any (n s a b : BitVec 64) (w : World) :
    Calls Try.prog 4 #[.int .u64 (n.toNat : Int), .int .u64 (s.toNat : Int), .int .u64 (a.toNat : Int), .int .u64 (b.toNat : Int)] w fun e w' => e = .returned (.bool true) ∧ Below w.heap.size w w' := by
  go_enter Try.func4, Try.ntmps4
  go_wp2_with fail
  refine (mix_any n w).mono ?_
  rintro e w' ⟨rfl, rfl⟩
  unfold uV
  go_wp2_with fail
  refine (refmix_any n w).mono ?_
  rintro e w' ⟨rfl, rfl⟩
  unfold uV
  go_wp2_with fail
  refine (pair_any s a b w).mono ?_
  rintro e w' ⟨rfl, rfl⟩
  unfold uV
  go_wp2_with fail
  refine (refpair_any s a b w).mono ?_
  rintro e w' ⟨rfl, rfl⟩
  unfold uV
  go_wp2_with fail
  refine (knownH_any w).mono ?_
  rintro e w' ⟨rfl, hb⟩
  have HB := hide hb
  clear hb
  go_wp2
  go_ret
  exact ⟨rfl, HB.out⟩

set_option maxHeartbeats 1000000 in
theorem hashApart_any (a b s f : BitVec 64) (w : World) :
    Calls Try.prog 5 #[.int .u64 (a.toNat : Int), .int .u64 (b.toNat : Int), .int .u64 (s.toNat : Int), .int .u64 (f.toNat : Int)] w fun e w' => e = .returned (.bool true) ∧ Below w.heap.size w w' := by
  by_cases hab : a = b
  · subst hab
    go_enter Try.func5, Try.ntmps5
    go_wp2_with fail
    refine (mix_any a w).mono ?_
    rintro e w' ⟨rfl, rfl⟩
    unfold uV
    go_wp2_with fail
    refine (mix_any a w).mono ?_
    rintro e w' ⟨rfl, rfl⟩
    unfold uV
    go_wp2_with fail
    refine (knownH_any w).mono ?_
    rintro e w' ⟨rfl, hb⟩
    have HB := hide hb
    clear hb
    go_wp2
    go_ret
    exact ⟨rfl, HB.out⟩
  · have h0 := ne_u hab
    have h1 := ne_u (x := mixB a) (y := mixB b) (fun e => hab (mix_inj e))
    have h2 := ne_u (x := pairB s f a) (y := pairB s f b) (fun e => hab (pair_inj e))
    have h1' := ne_u' (x := mixB a) (y := mixB b) (fun e => hab (mix_inj e))
    have h2' := ne_u' (x := pairB s f a) (y := pairB s f b) (fun e => hab (pair_inj e))
    clear hab
    go_enter Try.func5, Try.ntmps5
    go_wp2_with fail
    refine (mix_any a w).mono ?_
    rintro e w' ⟨rfl, rfl⟩
    unfold uV
    go_wp2_with fail
    refine (mix_any b w).mono ?_
    rintro e w' ⟨rfl, rfl⟩
    unfold uV
    go_wp2_with fail
    refine (pair_any s f a w).mono ?_
    rintro e w' ⟨rfl, rfl⟩
    unfold uV
    go_wp2_with fail
    refine (pair_any s f b w).mono ?_
    rintro e w' ⟨rfl, rfl⟩
    unfold uV
    go_wp2_with fail
    refine (knownH_any w).mono ?_
    rintro e w' ⟨rfl, hb⟩
    have HB := hide hb
    clear hb
    go_wp2
    go_ret
    exact ⟨rfl, HB.out⟩

set_option maxHeartbeats 1000000 in
theorem hashSip_any (k0 k1 : BitVec 64) (A : Option Addr) (c : Nat) (l : List UInt8) (w : World) (hl : l.length ≤ c) (hc : l.length ≤ 140737488355320) (hb : Byt w w.heap.size A l) :
    Calls Try.prog 3 #[.int .u64 (k0.toNat : Int), .int .u64 (k1.toNat : Int), .slice A l.length c] w fun e w' => e = .returned (.bool true) ∧ Below w.heap.size w w' := by
  go_enter Try.func3, Try.ntmps3
  go_wp2_with fail
  refine (lent_any A c l w.heap.size w hl hc hb (Nat.le_refl _)).mono ?_
  rintro e w1 ⟨rfl, hL, hb1⟩
  have hbl := hL.byt hL.lt
  go_wp2_with fail
  refine (sip_any k0 k1 _ (l.length + 8) l w1.heap.size w1 (by omega) (by omega) (by exact hbl) (Nat.le_refl _)).mono ?_
  rintro e w2 ⟨rfl, hb2⟩
  unfold uV
  have hL2 := hL.below hb2 hL.lt
  have hB2 := hb1.trans (hb2.mono hb1.size)
  go_wp2_with fail
  refine (refsip_any k0 k1 A c l w.heap.size w2 (by omega) (hb.below hB2) hB2.size).mono ?_
  rintro e w3 ⟨rfl, hb3⟩
  unfold uV
  have hL3 := hL2.below hb3 hL2.lt
  have hB3 := hB2.trans (hb3.mono hB2.size)
  have HK := hide (kept_any A c w.heap.size l w.heap.size w3 hl hc (hb.below hB3) hL3)
  have HB3 := hide hB3
  clear hb1 hb2 hb3 hB2 hB3 hL hL2 hL3 hbl
  go_wp2_with fail
  refine HK.out.mono ?_
  rintro e w4 ⟨rfl, rfl⟩
  go_wp2_with fail
  refine (knownH_any w3).mono ?_
  rintro e w4 ⟨rfl, hb4⟩
  have HB4 := hide hb4
  clear hb4
  go_wp2
  go_ret
  exact ⟨rfl, HB3.out.trans (HB4.out.mono HB3.out.size)⟩
end Go.Proofs.Ytlcgciafclfoeaa
