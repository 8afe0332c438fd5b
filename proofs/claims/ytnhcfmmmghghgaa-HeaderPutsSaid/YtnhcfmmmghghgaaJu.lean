/-
  A packet's bytes read again are the packet.
-/
import Derived.Test.YtnhcfmmmghghgaaJm
import Derived.Test.YtnhcfmmmghghgaaJr
namespace Go.Proofs.Ytnhcfmmmghghgaa
open Go.RowKit
set_option linter.unusedVariables false
set_option linter.unusedSimpArgs false

theorem pad_four {l : List UInt8} (hl : l.length = 16) (h : rightL false l = true) : pad16 (l.take 4) = l := by
  have h' : maskL l 32 = l := by
    unfold rightL at h
    rw [Bool.false_or, beq_iff_eq] at h
    exact h.symm
  have h0 := (right_four l hl).1 h'
  unfold pad16
  apply List.ext_getElem
  · simp [hl]
  · intro i h1 h2
    by_cases h4 : i < 4
    · rw [List.getElem_append_left (by simp [hl]; omega), List.getElem_take]
    · rw [List.getElem_append_right (by simp [hl]; omega), List.getElem_replicate]
      exact (h0 i h2 (by omega)).symm
theorem pad_full {l : List UInt8} (hl : l.length = 16) : pad16 l = l := by
  unfold pad16
  rw [hl]; simp
theorem right_parts {h : Ip} (hr : rightH h = true) : rightL h.sv h.sb = true ∧ h.sv = h.v ∧ rightL h.dv h.db = true ∧ h.dv = h.v ∧ (h.v = false → h.lab = 0) ∧ (h.v = true → h.id = 0 ∧ h.df = false ∧ h.no = 0) := by
  unfold rightH at hr
  revert hr
  cases rightL h.sv h.sb <;> cases rightL h.dv h.db <;> cases hv : h.v <;> cases h.sv <;> cases h.dv <;> simp <;> intros <;> simp [*]
theorem hd4_src {h : Ip} {O T : List UInt8} (ls : h.sb.length = 16) (ld : h.db.length = 16) : ((hd4 h O ++ T).drop 12).take 4 = h.sb.take 4 ∧ ((hd4 h O ++ T).drop 16).take 4 = h.db.take 4 ∧ (hd4 h O ++ T).drop 20 = O ++ T := by
  have hA := len_bA h
  have l4 : (h.sb.take 4).length = 4 := by simp [ls]
  have l5 : (h.db.take 4).length = 4 := by simp [ld]
  have e : hd4 h O ++ T = (bA h ++ numBytes (smH h O) 2 2) ++ (h.sb.take 4 ++ (h.db.take 4 ++ (O ++ T))) := by unfold hd4 bR; simp
  have l12 : (bA h ++ numBytes (smH h O) 2 2).length = 12 := by simp [hA, length_numBytes]
  have l16 : ((bA h ++ numBytes (smH h O) 2 2) ++ h.sb.take 4).length = 16 := by rw [List.length_append, l12, l4]
  have l20 : (((bA h ++ numBytes (smH h O) 2 2) ++ h.sb.take 4) ++ h.db.take 4).length = 20 := by rw [List.length_append, l16, l5]
  refine ⟨?_, ?_, ?_⟩
  · rw [e, List.drop_left' l12, List.take_left' l4]
  · rw [e, ← List.append_assoc, List.drop_left' l16, List.take_left' l5]
  · rw [e, ← List.append_assoc, ← List.append_assoc, List.drop_left' l20]
theorem hd6_src {h : Ip} {T : List UInt8} (ls : h.sb.length = 16) (ld : h.db.length = 16) : ((hd6 h ++ T).drop 8).take 16 = h.sb ∧ ((hd6 h ++ T).drop 24).take 16 = h.db ∧ (hd6 h ++ T).drop 40 = T := by
  have hA := len_six8 h
  have e : hd6 h ++ T = fldB (sixF h) ++ (h.sb ++ (h.db ++ T)) := by unfold hd6; simp
  have l24 : (fldB (sixF h) ++ h.sb).length = 24 := by rw [List.length_append, hA, ls]
  refine ⟨?_, ?_, ?_⟩
  · rw [e, List.drop_left' hA, List.take_left' ls]
  · rw [e, ← List.append_assoc, List.drop_left' l24, List.take_left' ld]
  · exact List.drop_left' (len_hd6 h ls ld)
theorem back4 {h : Ip} {O D : List UInt8} (he : pktE h = 0) (hv : h.v = false) (ls : h.sb.length = 16) (ld : h.db.length = 16) (hO : O.length = h.no) (hD : D.length = h.nd) (ao ad : Option Addr) (co cd : Nat) :
    p4H (pktB h O D) ao co ad cd = othH h ao co ad cd ∧ ((pktB h O D).drop 20).take (4 * (nmB (pktB h O D) 0 1 % 16) - 20) = O ∧ (pktB h O D).drop (4 * (nmB (pktB h O D) 0 1 % 16)) = D := by
  obtain ⟨hr, hs⟩ := pktE_zero he
  obtain ⟨⟨q1, q2⟩, ⟨q3, q4⟩, ⟨q5, q6⟩, -, qq⟩ := right_facts hr
  obtain ⟨⟨q7, q8⟩, q9, q10⟩ := qq hv
  obtain ⟨r1, r2, r3, r4, r5, -⟩ := right_parts hr
  have t5 := r5 hv
  clear r5
  rw [hv] at r2 r4
  rw [r2] at r1
  rw [r4] at r3
  have hlP := len_hd4 h O ls ld
  rw [pkt4_eq he hv ls ld hO hD]
  have F := four_of he hv (l := hd4 h O ++ D) (pre_app _ _ _ (by omega))
  obtain ⟨s1, s2, s3⟩ := hd4_src (O := O) (T := D) ls ld
  have e4 : 4 * ((64 + (20 + h.no) / 4) % 16) = 20 + h.no := by omega
  have eL : (hd4 h O ++ D).length - (20 + h.no) = h.nd := by rw [List.length_append, hlP, hO, hD]; omega
  have en : 20 + h.no - 20 = h.no := by omega
  refine ⟨?_, ?_, ?_⟩
  · unfold p4H othH
    rw [F.a, F.p, F.ttl, F.tos, F.id, F.df, e4, s1, s2, eL, en, pad_four ls r1, pad_four ld r3]
    obtain ⟨v, sv, sb, dv, db, p, ttl, tos, id, df, lab, a1, n1, c1, a2, n2, c2⟩ := h
    simp only at hv r2 r4 t5 q1 q3 q5 q7 ⊢
    subst hv r2 r4
    rw [t5]
    congr 1
    · omega
    · omega
    · omega
    · omega
    · cases df <;> simp
  · rw [F.a, e4, s3, en, List.take_left' hO]
  · rw [F.a, e4, List.drop_left' (by rw [hlP, hO])]
theorem back6 {h : Ip} {O D : List UInt8} (he : pktE h = 0) (hv : h.v = true) (ls : h.sb.length = 16) (ld : h.db.length = 16) (hD : D.length = h.nd) (ad : Option Addr) (cd : Nat) :
    p6H (pktB h O D) ad cd = othH h none 0 ad cd ∧ (pktB h O D).drop 40 = D := by
  obtain ⟨hr, hs⟩ := pktE_zero he
  obtain ⟨⟨q1, q2⟩, ⟨q3, q4⟩, ⟨q5, q6⟩, qq, -⟩ := right_facts hr
  obtain ⟨q7, q8⟩ := qq hv
  obtain ⟨r1, r2, r3, r4, -, r5⟩ := right_parts hr
  obtain ⟨t5, t6, t7⟩ := r5 hv
  clear r5
  rw [hv] at r2 r4
  have hlP := len_hd6 h ls ld
  rw [pkt6_eq he hv ls ld hD]
  have F := six_of he hv (l := hd6 h ++ D) (pre_app _ _ _ (by omega))
  obtain ⟨s1, s2, s3⟩ := hd6_src (T := D) ls ld
  have eL : (hd6 h ++ D).length - 40 = h.nd := by rw [List.length_append, hlP, hD]; omega
  refine ⟨?_, s3⟩
  unfold p6H othH
  rw [F.a, F.p, F.ttl, s1, s2, eL, pad_full ls, pad_full ld]
  obtain ⟨v, sv, sb, dv, db, p, ttl, tos, id, df, lab, a1, n1, c1, a2, n2, c2⟩ := h
  simp only at hv r2 r4 t5 t6 t7 q1 q3 q5 q7 q6 q8 ⊢
  subst hv r2 r4
  rw [t5, t6, t7]
  congr 1
  · omega
  · omega
  · omega
  · omega
theorem back_any {w w' : World} {X : Array Value} {h : Ip} {O D : List UInt8} (he : pktE h = 0) (ls : h.sb.length = 16) (ld : h.db.length = 16) (hO : O.length = h.no) (hD : D.length = h.nd) (hp : PktA w w' (pktB h O D) X) :
    ∃ ao co ad cd, IpV X (othH h ao co ad cd) ∧ Byt w' w'.heap.size ao O ∧ Byt w' w'.heap.size ad D := by
  have hlen := pk_len he ls ld hO hD
  have hne : pktB h O D ≠ [] := fun e => by
    rw [e] at hlen
    unfold sizeN at hlen
    split at hlen <;> simp at hlen <;> omega
  cases hv : h.v
  · have hlP := len_hd4 h O ls ld
    have h4 := first4 he hv (l := pktB h O D) (by rw [pkt4_eq he hv ls ld hO hD, pre_app _ _ _ (by omega)]) hne
    rcases hp with ⟨-, -, ao, co, ad, cd, hx, h1, h2⟩ | ⟨h6, -⟩
    · obtain ⟨b1, b2, b3⟩ := back4 he hv ls ld hO hD ao ad co cd
      rw [b1] at hx
      rw [b2] at h1
      rw [b3] at h2
      exact ⟨ao, co, ad, cd, hx, h1.1, h2.1⟩
    · omega
  · have hlP := len_hd6 h ls ld
    have h4 := first6 he hv (l := pktB h O D) (by rw [pkt6_eq he hv ls ld hD, pre_app _ _ _ (by omega)]) hne
    have hno := ((right_parts (pktE_zero he).1).2.2.2.2.2 hv).2.2
    have hOn : O = [] := List.eq_nil_of_length_eq_zero (by omega)
    rcases hp with ⟨h6, -⟩ | ⟨-, -, ad, cd, hx, h2⟩
    · omega
    · obtain ⟨b1, b3⟩ := back6 (O := O) he hv ls ld hD ad cd
      rw [b1] at hx
      rw [b3] at h2
      exact ⟨none, 0, ad, cd, hx, by rw [hOn]; exact Byt.nil _ _ _, h2.1⟩
end Go.Proofs.Ytnhcfmmmghghgaa
