/-
  A packet's bytes, one part behind the other; what is read of them, of fewer and of more.
-/
import Derived.Test.YtihakjcccbionaaGreatDoorIw
import Derived.Test.YtihakjcccbionaaGreatDoorMrd
namespace Go.Proofs.YtihakjcccbionaaGreatDoor
open Go.RowKit
set_option linter.unusedVariables false
set_option linter.unusedSimpArgs false

theorem splice_mid {α : Type} (pre mid post cs : List α) (off : Nat) (h1 : pre.length = off) (h2 : mid.length = cs.length) : splice (pre ++ (mid ++ post)) off cs = pre ++ (cs ++ post) := by
  subst h1
  unfold splice
  rw [List.take_left, ← h2, ← List.drop_drop, List.drop_left, List.drop_left]
theorem zerB_add (a b : Nat) : zerB (a + b) = zerB a ++ zerB b := by simp [zerB]
theorem len_zerB (n : Nat) : (zerB n).length = n := by simp [zerB]

/-- a head of four: before its sum, its sum, behind it. -/
def bA (h : Ip) : List UInt8 := fldB (fourF h (20 + h.no))
def bR (h : Ip) (O : List UInt8) : List UInt8 := h.sb.take 4 ++ (h.db.take 4 ++ O)
def smH (h : Ip) (O : List UInt8) : Nat := 65535 - addS (addS 0 (bA h)) (bR h O)
def hd4 (h : Ip) (O : List UInt8) : List UInt8 := bA h ++ (numBytes (smH h O) 2 2 ++ bR h O)
def hd6 (h : Ip) : List UInt8 := fldB (sixF h) ++ (h.sb ++ h.db)
theorem len_bA (h : Ip) : (bA h).length = 10 := by unfold bA fourF; simp [fldB, length_numBytes]
theorem len_bR (h : Ip) (O : List UInt8) (ls : h.sb.length = 16) (ld : h.db.length = 16) : (bR h O).length = 8 + O.length := by unfold bR; simp [ls, ld]; omega
theorem len_six8 (h : Ip) : (fldB (sixF h)).length = 8 := by unfold sixF; simp [fldB, length_numBytes]
theorem len_hd4 (h : Ip) (O : List UInt8) (ls : h.sb.length = 16) (ld : h.db.length = 16) : (hd4 h O).length = 20 + O.length := by unfold hd4; simp [len_bA, len_bR h O ls ld, length_numBytes]; omega
theorem len_hd6 (h : Ip) (ls : h.sb.length = 16) (ld : h.db.length = 16) : (hd6 h).length = 40 := by unfold hd6; simp [len_six8, ls, ld]
theorem smH_lt (h : Ip) (O : List UInt8) : smH h O < 256 ^ 2 := by unfold smH; omega
theorem headS_parts (A nb R : List UInt8) (ha : A.length = 10) (hn : nb.length = 2) : headS (A ++ (nb ++ R)) = 65535 - addS (addS 0 A) R := by
  unfold headS
  rw [List.take_left' ha, show 12 = A.length + nb.length by omega, ← List.drop_drop, List.drop_left, List.drop_left]
theorem headS_hd4 (h : Ip) (O : List UInt8) : headS (hd4 h O) = smH h O := headS_parts _ _ _ (len_bA h) (length_numBytes _ _ _)

theorem pkt4_eq {h : Ip} {O D : List UInt8} (he : pktE h = 0) (hv : h.v = false) (ls : h.sb.length = 16) (ld : h.db.length = 16) (hO : O.length = h.no) (hD : D.length = h.nd) : pktB h O D = hd4 h O ++ D := by
  have hn : sizeN h = 20 + h.no := by unfold sizeN; rw [hv]; rfl
  have l4 : (h.sb.take 4).length = 4 := by simp [ls]
  have l5 : (h.db.take 4).length = 4 := by simp [ld]
  have hA := len_bA h
  have e0 : zerB (20 + h.no + h.nd) = [] ++ (zerB 10 ++ (zerB 2 ++ (zerB 4 ++ (zerB 4 ++ (zerB h.no ++ zerB h.nd))))) := by
    rw [show 20 + h.no + h.nd = 10 + (2 + (4 + (4 + (h.no + h.nd)))) by omega, zerB_add, zerB_add, zerB_add, zerB_add, zerB_add]; rfl
  have e1 : four1 h (zerB (20 + h.no + h.nd)) O (20 + h.no) = bA h ++ (zerB 2 ++ (h.sb.take 4 ++ (h.db.take 4 ++ (O ++ zerB h.nd)))) := by
    unfold four1
    rw [e0, show fldB (fourF h (20 + h.no)) = bA h from rfl, splice_mid [] (zerB 10) _ (bA h) 0 rfl (by rw [len_zerB, hA])]
    rw [show [] ++ (bA h ++ (zerB 2 ++ (zerB 4 ++ (zerB 4 ++ (zerB h.no ++ zerB h.nd))))) = (bA h ++ zerB 2) ++ (zerB 4 ++ (zerB 4 ++ (zerB h.no ++ zerB h.nd))) by simp]
    rw [splice_mid _ (zerB 4) _ (h.sb.take 4) 12 (by simp [hA, len_zerB]) (by rw [len_zerB, l4])]
    rw [show (bA h ++ zerB 2) ++ (h.sb.take 4 ++ (zerB 4 ++ (zerB h.no ++ zerB h.nd))) = (bA h ++ (zerB 2 ++ h.sb.take 4)) ++ (zerB 4 ++ (zerB h.no ++ zerB h.nd)) by simp]
    rw [splice_mid _ (zerB 4) _ (h.db.take 4) 16 (by simp [hA, len_zerB, ls]) (by rw [len_zerB, l5])]
    rw [show (bA h ++ (zerB 2 ++ h.sb.take 4)) ++ (h.db.take 4 ++ (zerB h.no ++ zerB h.nd)) = (bA h ++ (zerB 2 ++ (h.sb.take 4 ++ h.db.take 4))) ++ (zerB h.no ++ zerB h.nd) by simp]
    rw [splice_mid _ (zerB h.no) _ O 20 (by simp [hA, len_zerB, ls, ld]) (by rw [len_zerB, hO])]
    simp
  have e2 : headS ((four1 h (zerB (20 + h.no + h.nd)) O (20 + h.no)).take (20 + h.no)) = smH h O := by
    rw [e1, show bA h ++ (zerB 2 ++ (h.sb.take 4 ++ (h.db.take 4 ++ (O ++ zerB h.nd)))) = (bA h ++ (zerB 2 ++ bR h O)) ++ zerB h.nd by unfold bR; simp]
    rw [List.take_left' (by simp [hA, len_zerB, len_bR h O ls ld]; omega)]
    exact headS_parts _ _ _ hA (len_zerB 2)
  unfold pktB
  rw [if_pos he, hv, hn]
  simp only [Bool.false_eq_true, if_false]
  unfold fourB
  rw [e2, e1, splice_mid (bA h) (zerB 2) _ (numBytes (smH h O) 2 2) 10 hA (by rw [len_zerB, length_numBytes])]
  rw [show bA h ++ (numBytes (smH h O) 2 2 ++ (h.sb.take 4 ++ (h.db.take 4 ++ (O ++ zerB h.nd)))) = hd4 h O ++ (zerB h.nd ++ []) by unfold hd4 bR; simp]
  rw [splice_mid _ _ _ D _ (by rw [len_hd4 h O ls ld, hO]) (by rw [len_zerB, hD])]
  simp

theorem pkt6_eq {h : Ip} {O D : List UInt8} (he : pktE h = 0) (hv : h.v = true) (ls : h.sb.length = 16) (ld : h.db.length = 16) (hD : D.length = h.nd) : pktB h O D = hd6 h ++ D := by
  have hn : sizeN h = 40 := by unfold sizeN; rw [hv]; rfl
  have hF := len_six8 h
  have e0 : zerB (40 + h.nd) = [] ++ (zerB 8 ++ (zerB 16 ++ (zerB 16 ++ zerB h.nd))) := by
    rw [show 40 + h.nd = 8 + (16 + (16 + h.nd)) by omega, zerB_add, zerB_add, zerB_add]; rfl
  unfold pktB
  rw [if_pos he, hv, hn]
  simp only [if_true]
  unfold sixB
  rw [e0, splice_mid [] (zerB 8) _ (fldB (sixF h)) 0 rfl (by rw [len_zerB, hF]), List.nil_append]
  rw [splice_mid _ (zerB 16) _ h.sb 8 hF (by rw [len_zerB, ls])]
  rw [show fldB (sixF h) ++ (h.sb ++ (zerB 16 ++ zerB h.nd)) = (fldB (sixF h) ++ h.sb) ++ (zerB 16 ++ zerB h.nd) by simp]
  rw [splice_mid _ (zerB 16) _ h.db 24 (by simp [hF, ls]) (by rw [len_zerB, ld])]
  rw [show (fldB (sixF h) ++ h.sb) ++ (h.db ++ zerB h.nd) = hd6 h ++ (zerB h.nd ++ []) by unfold hd6; simp]
  rw [splice_mid _ _ _ D _ (len_hd6 h ls ld) (by rw [len_zerB, hD])]
  simp

theorem addS_z : ∀ (s : Nat) (l : List UInt8), addS s l = 0 → s = 0
  | s, [], h => h
  | s, [x], h => (rnd_zero h).1
  | s, x :: y :: t, h => by rw [addS] at h; exact (rnd_zero (addS_z _ t h)).1
/-- a head's own sum is 0. -/
theorem hd4_sum (h : Ip) (O : List UInt8) (hno : h.no ≤ 40) : inetS (hd4 h O) = 0 := by
  obtain ⟨N, hN⟩ : ∃ N, N = smH h O := ⟨_, rfl⟩
  have hle : addS (addS 0 (bA h)) (bR h O) ≤ 65535 := addS_le _ _ (addS_le _ _ (by omega))
  have hN2 : N = 65535 - addS (addS 0 (bA h)) (bR h O) := hN
  have hNlt : N < 65536 := by omega
  have hA := len_bA h
  have eN : numBytes N 2 2 = [UInt8.ofNat (N / 256), UInt8.ofNat N] := by simp [numBytes, List.range_succ]
  have pN : plainS (numBytes N 2 2) = N := by
    rw [eN]; simp only [plainS]
    rw [UInt8.toNat_ofNat', UInt8.toNat_ofNat']
    omega
  have h1 := addS_mod 0 (hd4 h O)
  have h2 := addS_mod (addS 0 (bA h)) (bR h O)
  have h3 := addS_mod 0 (bA h)
  have hp : plainS (hd4 h O) = plainS (bA h) + (N + plainS (bR h O)) := by
    unfold hd4
    rw [plainS_append _ _ (by rw [hA]), ← hN, plainS_append _ _ (by rw [length_numBytes]), pN]
  rw [hp] at h1
  have hle2 : addS 0 (hd4 h O) ≤ 65535 := addS_le _ _ (by omega)
  have hne : addS 0 (hd4 h O) ≠ 0 := fun e => by
    unfold hd4 at e
    rw [addS_append _ _ _ (by rw [hA])] at e
    have e2 := addS_z _ _ e
    obtain ⟨t, ht⟩ : ∃ t, bA h = UInt8.ofNat (64 + (20 + h.no) / 4) :: UInt8.ofNat h.tos.toNat :: t := by
      unfold bA fourF fldB
      simp [numBytes, List.range_succ]
    rw [ht, addS] at e2
    have e3 := (rnd_zero (addS_z _ _ e2)).2
    rw [UInt8.toNat_ofNat'] at e3
    omega
  unfold inetS
  omega

/-- what is read of a packet's bytes. -/
theorem nmB_pre {l l' : List UInt8} {k m N : Nat} (h : l.take N = l'.take N) (hk : k + m ≤ N) : nmB l k m = nmB l' k m := by
  have e : ∀ x : List UInt8, (x.drop k).take m = ((x.take N).drop k).take m := fun x => by
    rw [List.drop_take, List.take_take, Nat.min_eq_left (by omega)]
  unfold nmB
  rw [e l, e l', h]
theorem nm_skip {a t : List UInt8} {k m : Nat} (j : Nat) (h : k = a.length + j) : nmB (a ++ t) k m = nmB t j m := by
  subst h
  unfold nmB
  rw [← List.drop_drop, List.drop_left]
theorem nm_here {N m : Nat} (t : List UInt8) (h : N < 256 ^ m) : nmB (numBytes N m m ++ t) 0 m = N := by
  unfold nmB
  rw [List.drop_zero, List.take_left' (length_numBytes N m m), numS_all h]
theorem nm_first {l : List UInt8} (h : l ≠ []) : (l.getD 0 0).toNat = nmB l 0 1 := by
  cases l with
  | nil => exact absurd rfl h
  | cons x t => unfold nmB; simp [numS]
theorem hd4_parts (h : Ip) (O : List UInt8) : hd4 h O = numBytes (64 + (20 + h.no) / 4) 1 1 ++ (numBytes h.tos.toNat 1 1 ++ (numBytes (20 + h.no + h.nd) 2 2 ++ (numBytes h.id.toNat 2 2 ++ (numBytes (if h.df then 16384 else 0) 2 2 ++ (numBytes h.ttl.toNat 1 1 ++ (numBytes h.p.toNat 1 1 ++ (numBytes (smH h O) 2 2 ++ (h.sb.take 4 ++ (h.db.take 4 ++ O))))))))) := by
  unfold hd4 bA bR fourF fldB; simp
theorem hd6_parts (h : Ip) : hd6 h = numBytes (1610612736 + h.tos.toNat * 1048576 + h.lab.toNat) 4 4 ++ (numBytes h.nd 2 2 ++ (numBytes h.p.toNat 1 1 ++ (numBytes h.ttl.toNat 1 1 ++ (h.sb ++ h.db)))) := by
  unfold hd6 sixF fldB; simp
theorem pktE_zero {h : Ip} (he : pktE h = 0) : rightH h = true ∧ sizeN h + h.nd ≤ 65535 := by
  unfold pktE at he
  by_cases hr : rightH h = true
  · rw [if_pos hr] at he
    refine ⟨hr, ?_⟩
    by_cases h2 : 65535 < sizeN h + h.nd
    · rw [if_pos h2] at he; exact absurd he (by decide)
    · omega
  · rw [if_neg hr] at he; exact absurd he (by decide)
structure Four (h : Ip) (O l : List UInt8) : Prop where
  a : nmB l 0 1 = 64 + (20 + h.no) / 4
  tos : nmB l 1 1 = h.tos.toNat
  n : nmB l 2 2 = 20 + h.no + h.nd
  id : nmB l 4 2 = h.id.toNat
  df : nmB l 6 2 = if h.df then 16384 else 0
  ttl : nmB l 8 1 = h.ttl.toNat
  p : nmB l 9 1 = h.p.toNat
  sm : nmB l 10 2 = smH h O
theorem four_of {h : Ip} {O l : List UInt8} (he : pktE h = 0) (hv : h.v = false) (hl : l.take 12 = (hd4 h O).take 12) : Four h O l := by
  obtain ⟨hr, hs⟩ := pktE_zero he
  obtain ⟨⟨q1, q2⟩, ⟨q3, q4⟩, ⟨q5, q6⟩, -, q⟩ := right_facts hr
  obtain ⟨⟨q7, q8⟩, q9, q10⟩ := q hv
  have hn : sizeN h = 20 + h.no := by unfold sizeN; rw [hv]; rfl
  rw [hn] at hs
  have e := hd4_parts h O
  refine ⟨?_, ?_, ?_, ?_, ?_, ?_, ?_, ?_⟩
  · rw [nmB_pre hl (by omega), e, nm_here _ (by omega)]
  · rw [nmB_pre hl (by omega), e, nm_skip 0 (by simp [length_numBytes]), nm_here _ (by omega)]
  · rw [nmB_pre hl (by omega), e, nm_skip 1 (by simp [length_numBytes]), nm_skip 0 (by simp [length_numBytes]), nm_here _ (by omega)]
  · rw [nmB_pre hl (by omega), e, nm_skip 3 (by simp [length_numBytes]), nm_skip 2 (by simp [length_numBytes]), nm_skip 0 (by simp [length_numBytes]), nm_here _ (by omega)]
  · rw [nmB_pre hl (by omega), e, nm_skip 5 (by simp [length_numBytes]), nm_skip 4 (by simp [length_numBytes]), nm_skip 2 (by simp [length_numBytes]), nm_skip 0 (by simp [length_numBytes]), nm_here _ (by split <;> omega)]
  · rw [nmB_pre hl (by omega), e, nm_skip 7 (by simp [length_numBytes]), nm_skip 6 (by simp [length_numBytes]), nm_skip 4 (by simp [length_numBytes]), nm_skip 2 (by simp [length_numBytes]), nm_skip 0 (by simp [length_numBytes]), nm_here _ (by omega)]
  · rw [nmB_pre hl (by omega), e, nm_skip 8 (by simp [length_numBytes]), nm_skip 7 (by simp [length_numBytes]), nm_skip 5 (by simp [length_numBytes]), nm_skip 3 (by simp [length_numBytes]), nm_skip 1 (by simp [length_numBytes]), nm_skip 0 (by simp [length_numBytes]), nm_here _ (by omega)]
  · rw [nmB_pre hl (by omega), e, nm_skip 9 (by simp [length_numBytes]), nm_skip 8 (by simp [length_numBytes]), nm_skip 6 (by simp [length_numBytes]), nm_skip 4 (by simp [length_numBytes]), nm_skip 2 (by simp [length_numBytes]), nm_skip 1 (by simp [length_numBytes]), nm_skip 0 (by simp [length_numBytes]), nm_here _ (smH_lt h O)]
structure Six (h : Ip) (l : List UInt8) : Prop where
  a : nmB l 0 4 = 1610612736 + h.tos.toNat * 1048576 + h.lab.toNat
  n : nmB l 4 2 = h.nd
  p : nmB l 6 1 = h.p.toNat
  ttl : nmB l 7 1 = h.ttl.toNat
theorem six_of {h : Ip} {l : List UInt8} (he : pktE h = 0) (hv : h.v = true) (hl : l.take 8 = (hd6 h).take 8) : Six h l := by
  obtain ⟨hr, hs⟩ := pktE_zero he
  obtain ⟨⟨q1, q2⟩, ⟨q3, q4⟩, ⟨q5, q6⟩, q, -⟩ := right_facts hr
  obtain ⟨q7, q8⟩ := q hv
  have hn : sizeN h = 40 := by unfold sizeN; rw [hv]; rfl
  rw [hn] at hs
  have e := hd6_parts h
  refine ⟨?_, ?_, ?_, ?_⟩
  · rw [nmB_pre hl (by omega), e, nm_here _ (by omega)]
  · rw [nmB_pre hl (by omega), e, nm_skip 0 (by simp [length_numBytes]), nm_here _ (by omega)]
  · rw [nmB_pre hl (by omega), e, nm_skip 2 (by simp [length_numBytes]), nm_skip 0 (by simp [length_numBytes]), nm_here _ (by omega)]
  · rw [nmB_pre hl (by omega), e, nm_skip 3 (by simp [length_numBytes]), nm_skip 1 (by simp [length_numBytes]), nm_skip 0 (by simp [length_numBytes]), nm_here _ (by omega)]
theorem first4 {h : Ip} {O l : List UInt8} (he : pktE h = 0) (hv : h.v = false) (hl : l.take 1 = (hd4 h O).take 1) (h0 : l ≠ []) : (l.getD 0 0).toNat / 16 = 4 := by
  obtain ⟨hr, hs⟩ := pktE_zero he
  obtain ⟨-, -, -, -, q⟩ := right_facts hr
  obtain ⟨-, q9, q10⟩ := q hv
  rw [nm_first h0, nmB_pre hl (by omega), hd4_parts, nm_here _ (by omega)]
  omega
theorem first6 {h : Ip} {l : List UInt8} (he : pktE h = 0) (hv : h.v = true) (hl : l.take 1 = (hd6 h).take 1) (h0 : l ≠ []) : (l.getD 0 0).toNat / 16 = 6 := by
  obtain ⟨hr, hs⟩ := pktE_zero he
  obtain ⟨-, -, ⟨q5, q6⟩, q, -⟩ := right_facts hr
  obtain ⟨q7, q8⟩ := q hv
  rw [nm_first h0, nmB_pre hl (by omega), hd6_parts]
  obtain ⟨N, hN⟩ : ∃ N, N = 1610612736 + h.tos.toNat * 1048576 + h.lab.toNat := ⟨_, rfl⟩
  rw [← hN]
  have e : ∀ t : List UInt8, nmB (numBytes N 4 4 ++ t) 0 1 = N / 2 ^ 24 % 256 := fun t => by
    unfold nmB
    simp [numBytes, List.range_succ, numS, UInt8.toNat_ofNat']
  rw [e]
  omega
theorem pkE4 {l : List UInt8} (h0 : l ≠ []) (h : (l.getD 0 0).toNat / 16 = 4) : pkE l = p4E l := by
  unfold pkE; rw [if_neg (by simpa using h0), if_pos h]
theorem pkE6 {l : List UInt8} (h0 : l ≠ []) (h : (l.getD 0 0).toNat / 16 = 6) : pkE l = p6E l := by
  unfold pkE; rw [if_neg (by simpa using h0), if_neg (by omega), if_pos h]
theorem take_pre (P T : List UInt8) (k N : Nat) (hk : N ≤ k) (hP : N ≤ P.length) : ((P ++ T).take k).take N = P.take N := by
  rw [List.take_take, Nat.min_eq_left hk, List.take_append_of_le_length hP]
theorem pk_cut {h : Ip} {O D : List UInt8} (he : pktE h = 0) (ls : h.sb.length = 16) (ld : h.db.length = 16) (hO : O.length = h.no) (hD : D.length = h.nd) (k : Nat) (hk : k < (pktB h O D).length) : pkE ((pktB h O D).take k) = 10 := by
  obtain ⟨hr, hs⟩ := pktE_zero he
  by_cases h0 : k = 0
  · subst h0; rfl
  cases hv : h.v
  · obtain ⟨-, q9, q10⟩ := (right_facts hr).2.2.2.2 hv
    have hn : sizeN h = 20 + h.no := by unfold sizeN; rw [hv]; rfl
    rw [pkt4_eq he hv ls ld hO hD] at hk ⊢
    have hlP := len_hd4 h O ls ld
    have hne : (hd4 h O ++ D).take k ≠ [] := fun e => by
      have := congrArg List.length e
      rw [List.length_take, List.length_append, List.length_nil] at this
      rw [List.length_append] at hk
      omega
    rw [pkE4 hne (first4 he hv (take_pre _ _ _ _ (by omega) (by omega)) hne)]
    rw [List.length_append] at hk
    unfold p4E
    rw [List.length_take, List.length_append, Nat.min_eq_left (by omega)]
    by_cases hk20 : k < 20
    · rw [if_pos hk20]
    · rw [if_neg hk20]
      have F := four_of he hv (l := (hd4 h O ++ D).take k) (take_pre _ _ _ _ (by omega) (by omega))
      rw [F.a, F.n]
      have e4 : 4 * ((64 + (20 + h.no) / 4) % 16) = 20 + h.no := by omega
      unfold p4S
      rw [e4, if_neg (by omega), if_pos (by omega)]
  · have hn : sizeN h = 40 := by unfold sizeN; rw [hv]; rfl
    rw [pkt6_eq he hv ls ld hD] at hk ⊢
    have hlP := len_hd6 h ls ld
    have hne : (hd6 h ++ D).take k ≠ [] := fun e => by
      have := congrArg List.length e
      rw [List.length_take, List.length_append, List.length_nil] at this
      rw [List.length_append] at hk
      omega
    rw [pkE6 hne (first6 he hv (take_pre _ _ _ _ (by omega) (by omega)) hne)]
    rw [List.length_append] at hk
    unfold p6E
    rw [List.length_take, List.length_append, Nat.min_eq_left (by omega)]
    by_cases hk40 : k < 40
    · rw [if_pos hk40]
    · rw [if_neg hk40, (six_of he hv (l := (hd6 h ++ D).take k) (take_pre _ _ _ _ (by omega) (by omega))).n, if_pos (by omega)]
theorem pre_app (P T : List UInt8) (N : Nat) (hP : N ≤ P.length) : (P ++ T).take N = P.take N := List.take_append_of_le_length hP
/-- bytes that begin with a whole packet. -/
theorem pk_on {h : Ip} {O D T : List UInt8} (he : pktE h = 0) (ls : h.sb.length = 16) (ld : h.db.length = 16) (hO : O.length = h.no) (hD : D.length = h.nd) : pkE (pktB h O D ++ T) = if T.length = 0 then 0 else 11 := by
  obtain ⟨hr, hs⟩ := pktE_zero he
  cases hv : h.v
  · obtain ⟨-, q9, q10⟩ := (right_facts hr).2.2.2.2 hv
    have hn : sizeN h = 20 + h.no := by unfold sizeN; rw [hv]; rfl
    rw [pkt4_eq he hv ls ld hO hD, List.append_assoc]
    have hlP := len_hd4 h O ls ld
    have hne : hd4 h O ++ (D ++ T) ≠ [] := fun e => by
      have := congrArg List.length e
      rw [List.length_append, List.length_append, List.length_nil] at this
      omega
    rw [pkE4 hne (first4 he hv (pre_app _ _ _ (by omega)) hne)]
    have F := four_of he hv (l := hd4 h O ++ (D ++ T)) (pre_app _ _ _ (by omega))
    have e4 : 4 * ((64 + (20 + h.no) / 4) % 16) = 20 + h.no := by omega
    unfold p4E
    rw [List.length_append, List.length_append, if_neg (by omega), F.a, F.n, F.df, F.sm, e4, List.take_left' (by rw [hlP, hO]), headS_hd4]
    unfold p4S
    rw [e4, if_neg (by omega), if_neg (by omega)]
    by_cases hT : T.length = 0
    · rw [if_neg (by omega), if_neg (by omega), if_pos hT]
      cases h.df <;> simp
    · rw [if_pos (by omega), if_neg hT]
  · have hn : sizeN h = 40 := by unfold sizeN; rw [hv]; rfl
    rw [pkt6_eq he hv ls ld hD, List.append_assoc]
    have hlP := len_hd6 h ls ld
    have hne : hd6 h ++ (D ++ T) ≠ [] := fun e => by
      have := congrArg List.length e
      rw [List.length_append, List.length_append, List.length_nil] at this
      omega
    rw [pkE6 hne (first6 he hv (pre_app _ _ _ (by omega)) hne)]
    unfold p6E
    rw [List.length_append, List.length_append, if_neg (by omega), (six_of he hv (l := hd6 h ++ (D ++ T)) (pre_app _ _ _ (by omega))).n, if_neg (by omega)]
    by_cases hT : T.length = 0
    · rw [if_neg (by omega), if_pos hT]
    · rw [if_pos (by omega), if_neg hT]
theorem pk_len {h : Ip} {O D : List UInt8} (he : pktE h = 0) (ls : h.sb.length = 16) (ld : h.db.length = 16) (hO : O.length = h.no) (hD : D.length = h.nd) : (pktB h O D).length = sizeN h + h.nd := by
  cases hv : h.v
  · rw [pkt4_eq he hv ls ld hO hD, List.length_append, len_hd4 h O ls ld, hO, hD]; unfold sizeN; rw [hv]; rfl
  · rw [pkt6_eq he hv ls ld hD, List.length_append, len_hd6 h ls ld, hD]; unfold sizeN; rw [hv]; rfl
end Go.Proofs.YtihakjcccbionaaGreatDoor
