/-
  The walk of the document's own Sip.
-/
import Derived.Test.YtlcgciafclfoeaaHv
import Derived.Deep.CutRange
namespace Go.Proofs.Ytlcgciafclfoeaa
open Go.RowKit
set_option linter.unusedVariables false

theorem start_rit0 (k : BitVec 64) : bits .xor .u64 8317987319222330741 (k.toNat : Int) = ((k ^^^ 8317987319222330741#64).toNat : Int) := by rw [BitVec.xor_comm]; exact c_xor 8317987319222330741#64 k
theorem start_rit1 (k : BitVec 64) : bits .xor .u64 7237128888997146477 (k.toNat : Int) = ((k ^^^ 7237128888997146477#64).toNat : Int) := by rw [BitVec.xor_comm]; exact c_xor 7237128888997146477#64 k
theorem start_rit2 (k : BitVec 64) : bits .xor .u64 7816392313619706465 (k.toNat : Int) = ((k ^^^ 7816392313619706465#64).toNat : Int) := by rw [BitVec.xor_comm]; exact c_xor 7816392313619706465#64 k
theorem start_rit3 (k : BitVec 64) : bits .xor .u64 8387220255154660723 (k.toNat : Int) = ((k ^^^ 8387220255154660723#64).toNat : Int) := by rw [BitVec.xor_comm]; exact c_xor 8387220255154660723#64 k

set_option maxHeartbeats 2000000 in
theorem refsip_any (k0 k1 : BitVec 64) (A : Option Addr) (c : Nat) (l : List UInt8) (B : Nat) (w : World) (hn47 : l.length ≤ 140737488355328) (hb : Byt w B A l) (hB : B ≤ w.heap.size) :
    Calls Try.prog 10 #[uV k0, uV k1, .slice A l.length c] w fun e w' => e = .returned (uV (sipB k0 k1 l)) ∧ Below w.heap.size w w' := by
  obtain ⟨n, hn⟩ : ∃ n, n = l.length := ⟨_, rfl⟩
  rw [← hn] at hn47 ⊢
  have hlen := hide hn
  clear hn
  unfold uV
  go_enter Try.func10, Try.ntmps10
  go_wp2
  rw [start_rit0, start_rit1, start_rit2, start_rit3]
  have hS0 : StH (w.alloc (.cells #[.int .u64 ((k0 ^^^ 8317987319222330741#64).toNat : Int), .int .u64 ((k1 ^^^ 7237128888997146477#64).toNat : Int), .int .u64 ((k0 ^^^ 7816392313619706465#64).toNat : Int), .int .u64 ((k1 ^^^ 8387220255154660723#64).toNat : Int)] 49)) w.heap.size 49 (startS k0 k1) := heap_alloc_new w _
  have hB0 : Below w.heap.size w (w.alloc (.cells #[.int .u64 ((k0 ^^^ 8317987319222330741#64).toNat : Int), .int .u64 ((k1 ^^^ 7237128888997146477#64).toNat : Int), .int .u64 ((k0 ^^^ 7816392313619706465#64).toNat : Int), .int .u64 ((k1 ^^^ 8387220255154660723#64).toNat : Int)] 49)) := (Below.refl _ _).alloc (Nat.le_refl _) _
  have hZ0 : w.heap.size < (w.alloc (.cells #[.int .u64 ((k0 ^^^ 8317987319222330741#64).toNat : Int), .int .u64 ((k1 ^^^ 7237128888997146477#64).toNat : Int), .int .u64 ((k0 ^^^ 7816392313619706465#64).toNat : Int), .int .u64 ((k1 ^^^ 8387220255154660723#64).toNat : Int)] 49)).heap.size := by simp
  have HFIN : Hid (sipB k0 k1 l = endS (bodyS (startS k0 k1) l).1 (bodyS (startS k0 k1) l).2 n) := hide (by rw [hlen.out]; rfl)
  generalize startS k0 k1 = s0 at hS0 HFIN
  generalize (w.alloc (.cells #[.int .u64 ((k0 ^^^ 8317987319222330741#64).toNat : Int), .int .u64 ((k1 ^^^ 7237128888997146477#64).toNat : Int), .int .u64 ((k0 ^^^ 7816392313619706465#64).toNat : Int), .int .u64 ((k1 ^^^ 8387220255154660723#64).toNat : Int)] 49)) = W0 at hS0 hB0 hZ0 ⊢
  have HS0 := hide hS0
  have HB0 := hide hB0
  have HBY := hide hb
  generalize (k0 ^^^ 8317987319222330741#64) = q0
  generalize (k1 ^^^ 7237128888997146477#64) = q1
  generalize (k0 ^^^ 7816392313619706465#64) = q2
  generalize (k1 ^^^ 8387220255154660723#64) = q3
  clear hS0 hB0 hb hZ0
  go_loopw [8, 9] (fun v i wr => ∃ (k : Nat) (m : BitVec 64) (s : Sip4), k ≤ n ∧ i = .int .i64 (k : Int) ∧ v = .int .u64 (m.toNat : Int) ∧ Hid (InS s0 l k s m) ∧ Hid (StH wr w.heap.size 49 s) ∧ Hid (Below w.heap.size w wr))
    (fun _ i _ => n - (intOf i).toNat)
  case atStart => exact ⟨0, 0#64, s0, by omega, rfl, rfl, hide (inS_start s0 l), HS0, HB0⟩
  case round =>
    obtain ⟨k, m, s, hk, rfl, rfl, hin, hst, hbel⟩ := hrel
    have hby := hide (HBY.out.below (hbel.out.mono hB))
    clear HS0 HB0
    by_cases hlt : k < n
    · obtain ⟨b, off, rfl, hbB, hcell⟩ := hby.out (by have := hlen.out; omega)
      have hkl : k < l.length := by have := hlen.out; omega
      obtain ⟨x, hx0⟩ : ∃ x, x = l[k]'hkl := ⟨_, rfl⟩
      have hx : x.toNat ≤ 255 := by have := x.toNat_lt; omega
      have hc0 : wr.cell? ⟨b, off + k, none⟩ = some (.int .u8 (x.toNat : Int)) := by rw [hx0]; exact hcell k _
      obtain ⟨r, hr⟩ : ∃ r, r = k % 8 := ⟨_, rfl⟩
      have e8 : (k : Int) % 8 = (r : Int) := by omega
      have hr8 : r < 8 := by omega
      have ht := shl_cast x r hr8
      have hcm := c_or m (BitVec.ofNat 64 x.toNat <<< (8 * r))
      by_cases h7 : r = 7
      · have hI := inS_last hin.out hkl (by omega)
        rw [← hr, ← hx0] at hI
        subst h7
        have hM : bits .or .u64 (m.toNat : Int) ((x.toNat : Int) * 72057594037927936) = ((m ||| (BitVec.ofNat 64 x.toNat <<< (8 * 7))).toNat : Int) := by
          rw [← hcm, ← ht]
          congr 1
          rw [IntKind.wrap_u64]; omega
        have HM := hide hM
        generalize (m ||| (BitVec.ofNat 64 x.toNat <<< (8 * 7))) = M at HM hI
        obtain ⟨sa, sb, sc, sd⟩ := s
        have hS := hst.out
        have kk0 : wr.cell? ⟨w.heap.size, 0, none⟩ = some (.int .u64 (sa.toNat : Int)) := hS.c0
        have fkk0 : wr.frozen? ⟨w.heap.size, 0, none⟩ = false := hS.fr 0
        have kk1 : wr.cell? ⟨w.heap.size, 1, none⟩ = some (.int .u64 (sb.toNat : Int)) := hS.c1
        have fkk1 : wr.frozen? ⟨w.heap.size, 1, none⟩ = false := hS.fr 1
        have kk2 : wr.cell? ⟨w.heap.size, 2, none⟩ = some (.int .u64 (sc.toNat : Int)) := hS.c2
        have fkk2 : wr.frozen? ⟨w.heap.size, 2, none⟩ = false := hS.fr 2
        have kk3 : wr.cell? ⟨w.heap.size, 3, none⟩ = some (.int .u64 (sd.toNat : Int)) := hS.c3
        have fkk3 : wr.frozen? ⟨w.heap.size, 3, none⟩ = false := hS.fr 3
        have HI := hide hI
        have HR := hide hr
        clear hI ht hcm hcell hx0 hkl hr hin hr8 hS hM
        go_wp2_with fail
        rw [HM.out]
        refine (refin_any wr sa sb sc sd M).mono ?_
        rintro e w1 ⟨rfl, hb1⟩
        generalize inS ⟨sa, sb, sc, sd⟩ M = t at HI ⊢
        obtain ⟨t0, t1, t2, t3⟩ := t
        have hS1 : StH w1 w.heap.size 49 ⟨sa, sb, sc, sd⟩ := (hb1.block _ hst.out.lt).trans hst.out
        have hB1 := hbel.out.trans (hb1.mono (Nat.le_of_lt hst.out.lt))
        clear kk0 kk1 kk2 kk3 fkk0 fkk1 fkk2 fkk3
        have hF : StH (World.setCell (World.setCell (World.setCell (World.setCell w1 ⟨w.heap.size, 0, none⟩ (Value.int IntKind.u64 (t0.toNat : Int))) ⟨w.heap.size, 1, none⟩ (Value.int IntKind.u64 (t1.toNat : Int))) ⟨w.heap.size, 2, none⟩ (Value.int IntKind.u64 (t2.toNat : Int))) ⟨w.heap.size, 3, none⟩ (Value.int IntKind.u64 (t3.toNat : Int))) w.heap.size 49 (⟨t0, t1, t2, t3⟩ : Sip4) := (StH.set (s' := (⟨t0, t1, t2, t3⟩ : Sip4)) (StH.set (s' := (⟨t0, t1, t2, sd⟩ : Sip4)) (StH.set (s' := (⟨t0, t1, sc, sd⟩ : Sip4)) (StH.set (s' := (⟨t0, sb, sc, sd⟩ : Sip4)) hS1 0 t0 rfl) 1 t1 rfl) 2 t2 rfl) 3 t3 rfl)
        have hBF : Below w.heap.size w (World.setCell (World.setCell (World.setCell (World.setCell w1 ⟨w.heap.size, 0, none⟩ (Value.int IntKind.u64 (t0.toNat : Int))) ⟨w.heap.size, 1, none⟩ (Value.int IntKind.u64 (t1.toNat : Int))) ⟨w.heap.size, 2, none⟩ (Value.int IntKind.u64 (t2.toNat : Int))) ⟨w.heap.size, 3, none⟩ (Value.int IntKind.u64 (t3.toNat : Int))) := (Below.setCell (Below.setCell (Below.setCell (Below.setCell hB1 (p := ⟨w.heap.size, 0, none⟩) (Nat.le_refl _) _) (p := ⟨w.heap.size, 1, none⟩) (Nat.le_refl _) _) (p := ⟨w.heap.size, 2, none⟩) (Nat.le_refl _) _) (p := ⟨w.heap.size, 3, none⟩) (Nat.le_refl _) _)
        have jj0 : w1.cell? ⟨w.heap.size, 0, none⟩ = some (.int .u64 (sa.toNat : Int)) := hS1.c0
        have fjj0 : w1.frozen? ⟨w.heap.size, 0, none⟩ = false := hS1.fr 0
        have jj1 : w1.cell? ⟨w.heap.size, 1, none⟩ = some (.int .u64 (sb.toNat : Int)) := hS1.c1
        have fjj1 : w1.frozen? ⟨w.heap.size, 1, none⟩ = false := hS1.fr 1
        have jj2 : w1.cell? ⟨w.heap.size, 2, none⟩ = some (.int .u64 (sc.toNat : Int)) := hS1.c2
        have fjj2 : w1.frozen? ⟨w.heap.size, 2, none⟩ = false := hS1.fr 2
        have jj3 : w1.cell? ⟨w.heap.size, 3, none⟩ = some (.int .u64 (sd.toNat : Int)) := hS1.c3
        have fjj3 : w1.frozen? ⟨w.heap.size, 3, none⟩ = false := hS1.fr 3
        have HF := hide hF
        have HBF := hide hBF
        clear hS1 hB1 hb1 hF hBF
        unfold Sip4.vals uV
        go_wp2
        go_roundw
        case rel => exact ⟨k + 1, 0#64, ⟨t0, t1, t2, t3⟩, by omega, by go_num, rfl, HI, HF, HBF⟩
        case measure => simp [intOf]; omega
      · have hI := inS_some hin.out hkl (by omega)
        rw [← hr, ← hx0] at hI
        rw [← ht] at hcm
        have HM := hide hcm
        generalize (m ||| (BitVec.ofNat 64 x.toNat <<< (8 * r))) = M at HM hI
        have hn7 : ((r : Int) == 7) = false := by simp; omega
        have HI := hide hI
        have HR := hide hr
        clear hI ht hcm hcell hx0 hkl hr hin
        go_wp2
        go_roundw
        case rel => exact ⟨k + 1, M, s, by omega, by go_num, by rw [HM.out], HI, hst, hbel⟩
        case measure => simp [intOf]; omega
    · have hkn : k = l.length := by have := hlen.out; omega
      subst hkn
      obtain ⟨hE1, hE2⟩ := inS_end hin.out
      have hFIN := HFIN.out
      rw [hE1] at hFIN
      have hm : m ||| (BitVec.ofNat 64 n <<< 56) = wordB (l.drop (8 * (l.length / 8))) ||| (BitVec.ofNat 64 n <<< 56) := by rw [hE2]
      have hM : bits .or .u64 (m.toNat : Int) ((((n % 256 : Nat) : Int)) * 72057594037927936) = ((m ||| (BitVec.ofNat 64 n <<< 56)).toNat : Int) := by
        rw [← ofNat_mod_shift n]
        have e : (((n % 256 : Nat) : Int)) = ((BitVec.ofNat 64 (n % 256)).toNat : Int) := by rw [BitVec.toNat_ofNat, Nat.mod_eq_of_lt (show n % 256 < 2 ^ 64 by omega)]
        have e2 := c_shl (BitVec.ofNat 64 (n % 256)) 56 72057594037927936 (by decide)
        rw [← c_or, ← e2, ← e, IntKind.wrap_u64]
        congr 1
        omega
      obtain ⟨r, hr⟩ : ∃ r, r = n % 256 := ⟨_, rfl⟩
      have e8 : (n : Int) % 256 = (r : Int) := by omega
      have hr8 : r < 256 := by omega
      rw [← hr] at hM
      have HM := hide hM
      have HE : Hid (sipB k0 k1 l = (roundsS 4 ⟨(inS s (m ||| (BitVec.ofNat 64 n <<< 56))).a, (inS s (m ||| (BitVec.ofNat 64 n <<< 56))).b, (inS s (m ||| (BitVec.ofNat 64 n <<< 56))).c ^^^ 255#64, (inS s (m ||| (BitVec.ofNat 64 n <<< 56))).d⟩).a ^^^ (roundsS 4 ⟨(inS s (m ||| (BitVec.ofNat 64 n <<< 56))).a, (inS s (m ||| (BitVec.ofNat 64 n <<< 56))).b, (inS s (m ||| (BitVec.ofNat 64 n <<< 56))).c ^^^ 255#64, (inS s (m ||| (BitVec.ofNat 64 n <<< 56))).d⟩).b ^^^ (roundsS 4 ⟨(inS s (m ||| (BitVec.ofNat 64 n <<< 56))).a, (inS s (m ||| (BitVec.ofNat 64 n <<< 56))).b, (inS s (m ||| (BitVec.ofNat 64 n <<< 56))).c ^^^ 255#64, (inS s (m ||| (BitVec.ofNat 64 n <<< 56))).d⟩).c ^^^ (roundsS 4 ⟨(inS s (m ||| (BitVec.ofNat 64 n <<< 56))).a, (inS s (m ||| (BitVec.ofNat 64 n <<< 56))).b, (inS s (m ||| (BitVec.ofNat 64 n <<< 56))).c ^^^ 255#64, (inS s (m ||| (BitVec.ofNat 64 n <<< 56))).d⟩).d) := hide (by rw [hFIN]; unfold endS; rw [hm])
      generalize (m ||| (BitVec.ofNat 64 n <<< 56)) = M at HM HE
      obtain ⟨sa, sb, sc, sd⟩ := s
      have hS := hst.out
      have kk0 : wr.cell? ⟨w.heap.size, 0, none⟩ = some (.int .u64 (sa.toNat : Int)) := hS.c0
      have fkk0 : wr.frozen? ⟨w.heap.size, 0, none⟩ = false := hS.fr 0
      have kk1 : wr.cell? ⟨w.heap.size, 1, none⟩ = some (.int .u64 (sb.toNat : Int)) := hS.c1
      have fkk1 : wr.frozen? ⟨w.heap.size, 1, none⟩ = false := hS.fr 1
      have kk2 : wr.cell? ⟨w.heap.size, 2, none⟩ = some (.int .u64 (sc.toNat : Int)) := hS.c2
      have fkk2 : wr.frozen? ⟨w.heap.size, 2, none⟩ = false := hS.fr 2
      have kk3 : wr.cell? ⟨w.heap.size, 3, none⟩ = some (.int .u64 (sd.toNat : Int)) := hS.c3
      have fkk3 : wr.frozen? ⟨w.heap.size, 3, none⟩ = false := hS.fr 3
      clear hE1 hE2 hFIN hm hM hr hin HFIN hS
      have hnl : ¬ (l.length : Int) < (n : Int) := by have := hlen.out; omega
      have hkn : Hid (l.length = n) := hide hlen.out.symm
      generalize l.length = kl at hnl hk hlt hkn ⊢
      go_wp2_with fail
      rw [HM.out]
      refine (refin_any wr sa sb sc sd M).mono ?_
      rintro e w1 ⟨rfl, hb1⟩
      generalize inS ⟨sa, sb, sc, sd⟩ M = t at HE ⊢
      obtain ⟨t0, t1, t2, t3⟩ := t
      have hS1 : StH w1 w.heap.size 49 ⟨sa, sb, sc, sd⟩ := (hb1.block _ hst.out.lt).trans hst.out
      have hB1 := hbel.out.trans (hb1.mono (Nat.le_of_lt hst.out.lt))
      clear kk0 kk1 kk2 kk3 fkk0 fkk1 fkk2 fkk3
      have e255 : bits .xor .u64 (t2.toNat : Int) 255 = ((t2 ^^^ 255#64).toNat : Int) := c_xor t2 255#64
      obtain ⟨y, hy⟩ : ∃ y, y = t2 ^^^ 255#64 := ⟨_, rfl⟩
      rw [← hy] at e255
      simp only [] at HE
      rw [← hy] at HE
      have jj0 : w1.cell? ⟨w.heap.size, 0, none⟩ = some (.int .u64 (sa.toNat : Int)) := hS1.c0
      have fjj0 : w1.frozen? ⟨w.heap.size, 0, none⟩ = false := hS1.fr 0
      have jj1 : w1.cell? ⟨w.heap.size, 1, none⟩ = some (.int .u64 (sb.toNat : Int)) := hS1.c1
      have fjj1 : w1.frozen? ⟨w.heap.size, 1, none⟩ = false := hS1.fr 1
      have jj2 : w1.cell? ⟨w.heap.size, 2, none⟩ = some (.int .u64 (sc.toNat : Int)) := hS1.c2
      have fjj2 : w1.frozen? ⟨w.heap.size, 2, none⟩ = false := hS1.fr 2
      have jj3 : w1.cell? ⟨w.heap.size, 3, none⟩ = some (.int .u64 (sd.toNat : Int)) := hS1.c3
      have fjj3 : w1.frozen? ⟨w.heap.size, 3, none⟩ = false := hS1.fr 3
      have HF : Hid (StH (World.setCell (World.setCell (World.setCell (World.setCell (World.setCell w1 ⟨w.heap.size, 0, none⟩ (Value.int IntKind.u64 (t0.toNat : Int))) ⟨w.heap.size, 1, none⟩ (Value.int IntKind.u64 (t1.toNat : Int))) ⟨w.heap.size, 2, none⟩ (Value.int IntKind.u64 (t2.toNat : Int))) ⟨w.heap.size, 3, none⟩ (Value.int IntKind.u64 (t3.toNat : Int))) ⟨w.heap.size, 2, none⟩ (Value.int IntKind.u64 (y.toNat : Int))) w.heap.size 49 (⟨t0, t1, y, t3⟩ : Sip4)) := hide (StH.set (s' := (⟨t0, t1, y, t3⟩ : Sip4)) (StH.set (s' := (⟨t0, t1, t2, t3⟩ : Sip4)) (StH.set (s' := (⟨t0, t1, t2, sd⟩ : Sip4)) (StH.set (s' := (⟨t0, t1, sc, sd⟩ : Sip4)) (StH.set (s' := (⟨t0, sb, sc, sd⟩ : Sip4)) hS1 0 t0 rfl) 1 t1 rfl) 2 t2 rfl) 3 t3 rfl) 2 y rfl)
      have HBF : Hid (Below w.heap.size w (World.setCell (World.setCell (World.setCell (World.setCell (World.setCell w1 ⟨w.heap.size, 0, none⟩ (Value.int IntKind.u64 (t0.toNat : Int))) ⟨w.heap.size, 1, none⟩ (Value.int IntKind.u64 (t1.toNat : Int))) ⟨w.heap.size, 2, none⟩ (Value.int IntKind.u64 (t2.toNat : Int))) ⟨w.heap.size, 3, none⟩ (Value.int IntKind.u64 (t3.toNat : Int))) ⟨w.heap.size, 2, none⟩ (Value.int IntKind.u64 (y.toNat : Int)))) := hide (Below.setCell (Below.setCell (Below.setCell (Below.setCell (Below.setCell hB1 (p := ⟨w.heap.size, 0, none⟩) (Nat.le_refl _) _) (p := ⟨w.heap.size, 1, none⟩) (Nat.le_refl _) _) (p := ⟨w.heap.size, 2, none⟩) (Nat.le_refl _) _) (p := ⟨w.heap.size, 3, none⟩) (Nat.le_refl _) _) (p := ⟨w.heap.size, 2, none⟩) (Nat.le_refl _) _)
      have HX := hide e255
      clear hS1 hB1 hb1 hy e255
      unfold Sip4.vals uV
      go_upto_region 12 with (fail)
      rw [HX.out]
      have hF := HF.out
      have hBF := HBF.out
      generalize (World.setCell (World.setCell (World.setCell (World.setCell (World.setCell w1 ⟨w.heap.size, 0, none⟩ (Value.int IntKind.u64 (t0.toNat : Int))) ⟨w.heap.size, 1, none⟩ (Value.int IntKind.u64 (t1.toNat : Int))) ⟨w.heap.size, 2, none⟩ (Value.int IntKind.u64 (t2.toNat : Int))) ⟨w.heap.size, 3, none⟩ (Value.int IntKind.u64 (t3.toNat : Int))) ⟨w.heap.size, 2, none⟩ (Value.int IntKind.u64 (y.toNat : Int))) = w2 at hF hBF ⊢
      have HSz := hide hF.lt
      clear HF HBF jj0 jj1 jj2 jj3 fjj0 fjj1 fjj2 fjj3
      have ll0 : w2.cell? ⟨w.heap.size, 0, none⟩ = some (.int .u64 (t0.toNat : Int)) := hF.c0
      have fll0 : w2.frozen? ⟨w.heap.size, 0, none⟩ = false := hF.fr 0
      have ll1 : w2.cell? ⟨w.heap.size, 1, none⟩ = some (.int .u64 (t1.toNat : Int)) := hF.c1
      have fll1 : w2.frozen? ⟨w.heap.size, 1, none⟩ = false := hF.fr 1
      have ll2 : w2.cell? ⟨w.heap.size, 2, none⟩ = some (.int .u64 (y.toNat : Int)) := hF.c2
      have fll2 : w2.frozen? ⟨w.heap.size, 2, none⟩ = false := hF.fr 2
      have ll3 : w2.cell? ⟨w.heap.size, 3, none⟩ = some (.int .u64 (t3.toNat : Int)) := hF.c3
      have fll3 : w2.frozen? ⟨w.heap.size, 3, none⟩ = false := hF.fr 3
      go_wp2_with fail
      clear ll0 ll1 ll2 ll3 fll0 fll1 fll2 fll3
      refine (refround_any w2 t0 t1 y t3).mono ?_
      rintro e w3 ⟨rfl, hb0⟩
      obtain ⟨R0, hR0⟩ : ∃ R, R = roundS ⟨t0, t1, y, t3⟩ := ⟨_, rfl⟩
      rw [← hR0]
      obtain ⟨p0, q0, r0, s0⟩ := R0
      have HR0 := hide hR0
      have HBB0 := hide hb0
      clear hR0 hb0
      unfold Sip4.vals uV
      go_wp2_with fail
      refine (refround_any w3 p0 q0 r0 s0).mono ?_
      rintro e w4 ⟨rfl, hb1⟩
      obtain ⟨R1, hR1⟩ : ∃ R, R = roundS ⟨p0, q0, r0, s0⟩ := ⟨_, rfl⟩
      rw [← hR1]
      obtain ⟨p1, q1, r1, s1⟩ := R1
      have HR1 := hide hR1
      have HBB1 := hide hb1
      clear hR1 hb1
      unfold Sip4.vals uV
      go_wp2_with fail
      refine (refround_any w4 p1 q1 r1 s1).mono ?_
      rintro e w5 ⟨rfl, hb2⟩
      obtain ⟨R2, hR2⟩ : ∃ R, R = roundS ⟨p1, q1, r1, s1⟩ := ⟨_, rfl⟩
      rw [← hR2]
      obtain ⟨p2, q2, r2, s2⟩ := R2
      have HR2 := hide hR2
      have HBB2 := hide hb2
      clear hR2 hb2
      unfold Sip4.vals uV
      go_wp2_with fail
      refine (refround_any w5 p2 q2 r2 s2).mono ?_
      rintro e w6 ⟨rfl, hb3⟩
      obtain ⟨R3, hR3⟩ : ∃ R, R = roundS ⟨p2, q2, r2, s2⟩ := ⟨_, rfl⟩
      rw [← hR3]
      obtain ⟨p3, q3, r3, s3⟩ := R3
      have HR3 := hide hR3
      have HBB3 := hide hb3
      clear hR3 hb3
      unfold Sip4.vals uV
      have hbb : Below w2.heap.size w2 w6 := HBB0.out.trans ((HBB1.out.mono HBB0.out.size).trans ((HBB2.out.mono (Nat.le_trans HBB0.out.size HBB1.out.size)).trans (HBB3.out.mono (Nat.le_trans HBB0.out.size (Nat.le_trans HBB1.out.size HBB2.out.size)))))
      have hS6 : StH w6 w.heap.size 49 ⟨t0, t1, y, t3⟩ := (hbb.block _ HSz.out).trans hF
      have hB6 := hBF.trans (hbb.mono (Nat.le_of_lt HSz.out))
      have jj0 : w6.cell? ⟨w.heap.size, 0, none⟩ = some (.int .u64 (t0.toNat : Int)) := hS6.c0
      have fjj0 : w6.frozen? ⟨w.heap.size, 0, none⟩ = false := hS6.fr 0
      have jj1 : w6.cell? ⟨w.heap.size, 1, none⟩ = some (.int .u64 (t1.toNat : Int)) := hS6.c1
      have fjj1 : w6.frozen? ⟨w.heap.size, 1, none⟩ = false := hS6.fr 1
      have jj2 : w6.cell? ⟨w.heap.size, 2, none⟩ = some (.int .u64 (y.toNat : Int)) := hS6.c2
      have fjj2 : w6.frozen? ⟨w.heap.size, 2, none⟩ = false := hS6.fr 2
      have jj3 : w6.cell? ⟨w.heap.size, 3, none⟩ = some (.int .u64 (t3.toNat : Int)) := hS6.c3
      have fjj3 : w6.frozen? ⟨w.heap.size, 3, none⟩ = false := hS6.fr 3
      have HBF : Hid (Below w.heap.size w (World.setCell (World.setCell (World.setCell (World.setCell w6 ⟨w.heap.size, 0, none⟩ (Value.int IntKind.u64 (p3.toNat : Int))) ⟨w.heap.size, 1, none⟩ (Value.int IntKind.u64 (q3.toNat : Int))) ⟨w.heap.size, 2, none⟩ (Value.int IntKind.u64 (r3.toNat : Int))) ⟨w.heap.size, 3, none⟩ (Value.int IntKind.u64 (s3.toNat : Int)))) := hide (Below.setCell (Below.setCell (Below.setCell (Below.setCell hB6 (p := ⟨w.heap.size, 0, none⟩) (Nat.le_refl _) _) (p := ⟨w.heap.size, 1, none⟩) (Nat.le_refl _) _) (p := ⟨w.heap.size, 2, none⟩) (Nat.le_refl _) _) (p := ⟨w.heap.size, 3, none⟩) (Nat.le_refl _) _)
      have hr4 : roundsS 4 ⟨t0, t1, y, t3⟩ = ⟨p3, q3, r3, s3⟩ := by
        show roundS (roundS (roundS (roundS ⟨t0, t1, y, t3⟩))) = _
        rw [← HR0.out, ← HR1.out, ← HR2.out, ← HR3.out]
      rw [hr4] at HE
      clear hbb hS6 hB6 hF hBF hr4 HR0 HR1 HR2 HR3 HBB0 HBB1 HBB2 HBB3
      go_wp2
      go_ret
      exact ⟨ret_int (by rw [c_xor, c_xor, c_xor, HE.out]), HBF.out⟩
end Go.Proofs.Ytlcgciafclfoeaa
