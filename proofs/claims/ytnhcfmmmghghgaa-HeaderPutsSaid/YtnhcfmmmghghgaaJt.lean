/-
  The document's bytes of a packet are the program's.
-/
import Derived.Test.YtnhcfmmmghghgaaJm
import Derived.Test.YtnhcfmmmghghgaaJa
namespace Go.Proofs.Ytnhcfmmmghghgaa
open Go.RowKit
set_option linter.unusedVariables false
set_option linter.unusedSimpArgs false

theorem b8_nat (N : Nat) : b8 (N : Int) = UInt8.ofNat N := by
  unfold b8
  have e : ((N : Int) % 256).toNat = N % 256 := by omega
  rw [e]
  apply UInt8.toNat_inj.1
  rw [UInt8.toNat_ofNat', UInt8.toNat_ofNat']
  omega
theorem b8_div (N k : Nat) : b8 ((N : Int) / (k : Int)) = UInt8.ofNat (N / k) := by
  rw [← Int.natCast_ediv]; exact b8_nat _
theorem b8_d256 (N : Nat) : b8 ((N : Int) / 256) = UInt8.ofNat (N / 256) := b8_div N 256
theorem b8_of {z : Int} (h : 0 ≤ z) : b8 z = UInt8.ofNat z.toNat := by
  have e : z = (z.toNat : Int) := (Int.toNat_of_nonneg h).symm
  rw [e]; exact b8_nat _
theorem b8_hi {z : Int} (h : 0 ≤ z) : b8 (z / 256) = UInt8.ofNat (z.toNat / 256) := by
  have e : z = (z.toNat : Int) := (Int.toNat_of_nonneg h).symm
  rw [e]; exact b8_div _ 256
theorem numI1 (n : Nat) : numBytes n 1 1 = [UInt8.ofNat n] := by simp [numBytes]
theorem numI2 (n : Nat) : numBytes n 2 2 = [UInt8.ofNat (n / 256), UInt8.ofNat n] := by simp [numBytes, List.range_succ]
theorem numI4 (n : Nat) : numBytes n 4 4 = [UInt8.ofNat (n / 16777216), UInt8.ofNat (n / 65536), UInt8.ofNat (n / 256), UInt8.ofNat n] := by simp [numBytes, List.range_succ]
theorem ofNat_eq {a b : Nat} (h : a % 256 = b % 256) : UInt8.ofNat a = UInt8.ofNat b := by
  apply UInt8.toNat_inj.1
  rw [UInt8.toNat_ofNat', UInt8.toNat_ofNat']
  exact h
theorem set_two (A R : List UInt8) (a b x y : UInt8) (hA : A.length = 10) : ((A ++ ([a, b] ++ R)).set 10 x).set 11 y = A ++ ([x, y] ++ R) := by
  rw [List.set_append_right _ _ (by omega), List.set_append_right _ _ (by omega), hA]
  rfl
theorem bA_doc {h : Ip} {q S nd : Nat} {dz : Int} (he : pktE h = 0) (hv : h.v = false) (hq : q = S / 4) (hS : S = 20 + h.no) (hnd : nd = h.nd) (hdz : dz = if h.df then 16384 else 0) :
    [b8 (64 + (q : Int)), b8 h.tos] ++ ([b8 (((S : Int) + (nd : Int)) / 256), b8 ((S : Int) + (nd : Int))] ++ ([b8 (h.id / 256), b8 h.id] ++ ([b8 (dz / 256), b8 dz] ++ [b8 h.ttl, b8 h.p]))) = bA h := by
  obtain ⟨hr, hs⟩ := pktE_zero he
  obtain ⟨⟨q1, q2⟩, ⟨q3, q4⟩, ⟨q5, q6⟩, -, qq⟩ := right_facts hr
  obtain ⟨⟨q7, q8⟩, q9, q10⟩ := qq hv
  have e : bA h = numBytes (64 + (20 + h.no) / 4) 1 1 ++ (numBytes h.tos.toNat 1 1 ++ (numBytes (20 + h.no + h.nd) 2 2 ++ (numBytes h.id.toNat 2 2 ++ (numBytes (if h.df then 16384 else 0) 2 2 ++ (numBytes h.ttl.toNat 1 1 ++ numBytes h.p.toNat 1 1))))) := by
    unfold bA fourF fldB; simp
  have hd : dz = (((if h.df then 16384 else 0) : Nat) : Int) := by rw [hdz]; cases h.df <;> rfl
  have e1 : (64 : Int) + (q : Int) = ((64 + (20 + h.no) / 4 : Nat) : Int) := by rw [hq, hS]; omega
  have e2 : (S : Int) + (nd : Int) = ((20 + h.no + h.nd : Nat) : Int) := by rw [hS, hnd]; omega
  rw [e, e1, e2, hd, b8_nat, b8_of q5, b8_d256, b8_nat, b8_hi q7, b8_of q7, b8_d256, b8_nat, b8_of q3, b8_of q1]
  simp only [numI1, numI2, List.cons_append, List.nil_append]
/-- the document's list of a packet of four, ahead of its sum. -/
def doc4 (h : Ip) (O sB dB : List UInt8) (q S nd : Nat) (dz : Int) : List UInt8 := [b8 (64 + (q : Int)), b8 h.tos] ++ [b8 (((S : Int) + (nd : Int)) / 256), b8 ((S : Int) + (nd : Int))] ++ [b8 (h.id / 256), b8 h.id] ++ [b8 (dz / 256), b8 dz] ++ [b8 h.ttl, b8 h.p, 0, 0] ++ sB ++ dB ++ O
theorem doc4_parts {h : Ip} {O sB dB : List UInt8} {q S nd : Nat} {dz : Int} (he : pktE h = 0) (hv : h.v = false) (hq : q = S / 4) (hS : S = 20 + h.no) (hnd : nd = h.nd) (hdz : dz = if h.df then 16384 else 0) (hs : sB = h.sb.take 4) (hd : dB = h.db.take 4) :
    doc4 h O sB dB q S nd dz = bA h ++ ([0, 0] ++ bR h O) := by
  rw [← bA_doc he hv hq hS hnd hdz]
  unfold doc4 bR
  rw [hs, hd]
  simp only [List.append_assoc, List.cons_append, List.nil_append]
theorem doc4_head {h : Ip} {O sB dB : List UInt8} {q S nd : Nat} {dz : Int} (he : pktE h = 0) (hv : h.v = false) (hq : q = S / 4) (hS : S = 20 + h.no) (hnd : nd = h.nd) (hdz : dz = if h.df then 16384 else 0) (hs : sB = h.sb.take 4) (hd : dB = h.db.take 4) :
    headS (doc4 h O sB dB q S nd dz) = smH h O := by
  rw [doc4_parts he hv hq hS hnd hdz hs hd]
  exact headS_parts _ _ _ (len_bA h) rfl
theorem doc4_all {h : Ip} {O D sB dB : List UInt8} {q S nd : Nat} {dz N : Int} (he : pktE h = 0) (hv : h.v = false) (hq : q = S / 4) (hS : S = 20 + h.no) (hnd : nd = h.nd) (hdz : dz = if h.df then 16384 else 0) (hs : sB = h.sb.take 4) (hd : dB = h.db.take 4) (ls : h.sb.length = 16) (ld : h.db.length = 16) (hO : O.length = h.no) (hD : D.length = h.nd)
    (hN : N = ((headS (doc4 h O sB dB q S nd dz) : Nat) : Int)) : ((doc4 h O sB dB q S nd dz).set 10 (b8 (N / 256))).set 11 (b8 N) ++ D = pktB h O D := by
  rw [doc4_head he hv hq hS hnd hdz hs hd] at hN
  rw [pkt4_eq he hv ls ld hO hD, doc4_parts he hv hq hS hnd hdz hs hd, set_two _ _ _ _ _ _ (len_bA h), hN, b8_d256, b8_nat]
  unfold hd4
  rw [numI2]
/-- the document's list of a packet of six. -/
theorem doc6_all {h : Ip} {O D : List UInt8} {T L nd : Nat} {u0 u1 : UInt8} (he : pktE h = 0) (hv : h.v = true) (ls : h.sb.length = 16) (ld : h.db.length = 16) (hD : D.length = h.nd) (hT : h.tos = (T : Int)) (hL : h.lab = (L : Int)) (hnd : nd = h.nd)
    (h0 : u0 = UInt8.ofNat (96 + T / 16)) (h1 : u1 = UInt8.ofNat (T * 16 + L / 65536)) :
    [u0, u1] ++ [b8 (h.lab / 256), b8 h.lab] ++ [b8 ((nd : Int) / 256), b8 (nd : Int)] ++ [b8 h.p, b8 h.ttl] ++ h.sb ++ h.db ++ D = pktB h O D := by
  obtain ⟨hr, hs⟩ := pktE_zero he
  obtain ⟨⟨q1, q2⟩, ⟨q3, q4⟩, ⟨q5, q6⟩, qq, -⟩ := right_facts hr
  obtain ⟨q7, q8⟩ := qq hv
  rw [pkt6_eq he hv ls ld hD, hd6_parts, numI4, numI2, numI1, numI1, b8_of q1, b8_of q3, b8_d256, b8_nat, hL, b8_d256, b8_nat, hT, h0, h1, ← hnd]
  have e1 : UInt8.ofNat ((1610612736 + (T : Int).toNat * 1048576 + (L : Int).toNat) / 16777216) = UInt8.ofNat (96 + T / 16) := ofNat_eq (by omega)
  have e2 : UInt8.ofNat ((1610612736 + (T : Int).toNat * 1048576 + (L : Int).toNat) / 65536) = UInt8.ofNat (T * 16 + L / 65536) := ofNat_eq (by omega)
  have e3 : UInt8.ofNat ((1610612736 + (T : Int).toNat * 1048576 + (L : Int).toNat) / 256) = UInt8.ofNat (L / 256) := ofNat_eq (by omega)
  have e4 : UInt8.ofNat (1610612736 + (T : Int).toNat * 1048576 + (L : Int).toNat) = UInt8.ofNat L := ofNat_eq (by omega)
  rw [e1, e2, e3, e4]
  simp only [List.append_assoc, List.cons_append, List.nil_append]
end Go.Proofs.Ytnhcfmmmghghgaa
