/-
  Mathematics: what is read of a segment's bytes.
-/
import Derived.Test.YtcfckhdohcaffaaKs
namespace Go.Proofs.Ytcfckhdohcaffaa
open Go.RowKit
set_option linter.unusedVariables false
set_option linter.unusedSimpArgs false

theorem b8_nat (N : Nat) : b8 ((N : Int) / 256) = UInt8.ofNat (N / 256) ∧ b8 (N : Int) = UInt8.ofNat N := by
  constructor
  · apply UInt8.toNat.inj
    unfold b8
    rw [UInt8.toNat_ofNat', UInt8.toNat_ofNat']
    omega
  · apply UInt8.toNat.inj
    unfold b8
    rw [UInt8.toNat_ofNat', UInt8.toNat_ofNat']
    omega
theorem num_two (N : Nat) : [b8 ((N : Int) / 256), b8 (N : Int)] = numBytes N 2 2 := by
  obtain ⟨h1, h2⟩ := b8_nat N
  rw [h1, h2]
  have e : numBytes N 2 2 = [UInt8.ofNat (N / 256), UInt8.ofNat (N / 1)] := rfl
  rw [e, Nat.div_one]
/-- the numbers ahead of a segment's sum, of TCP and of UDP. -/
def preT (s : Sg) : List UInt8 := numBytes s.a.toNat 2 2 ++ (numBytes s.b.toNat 2 2 ++ (numBytes s.q 4 4 ++ (numBytes s.k 4 4 ++ (numBytes ((20 + s.no) / 4 * 16) 1 1 ++ (numBytes s.f.toNat 1 1 ++ numBytes s.wn.toNat 2 2)))))
def preU (s : Sg) : List UInt8 := numBytes s.a.toNat 2 2 ++ (numBytes s.b.toNat 2 2 ++ numBytes (8 + s.nd) 2 2)
theorem len_preT (s : Sg) : (preT s).length = 16 := by simp [preT, length_numBytes]
theorem len_preU (s : Sg) : (preU s).length = 6 := by simp [preU, length_numBytes]
theorem seg0_T {s : Sg} (h6 : s.p = 6) (O D : List UInt8) : seg0 s O D = preT s ++ ([0, 0] ++ (numBytes s.u.toNat 2 2 ++ (O ++ D))) := by
  unfold seg0 hdB
  rw [if_pos h6]
  have e : ([0, 0] : List UInt8) = numBytes 0 2 2 := rfl
  rw [e]
  simp [fldB, tcpF, preT]
theorem seg0_U {s : Sg} (h6 : s.p ≠ 6) (O D : List UInt8) : seg0 s O D = preU s ++ ([0, 0] ++ (O ++ D)) := by
  unfold seg0 hdB
  rw [if_neg h6]
  have e : ([0, 0] : List UInt8) = numBytes 0 2 2 := rfl
  rw [e]
  simp [fldB, preU]
/-- the number that stands in the sum's place. -/
def sumN (h : Ip) (s : Sg) (O D : List UInt8) : Nat := if s.ns then 0 else sumV h (seg0 s O D) (atS h.p)
theorem sumN_le (h : Ip) (s : Sg) (O D : List UInt8) : sumN h s O D ≤ 65535 := by unfold sumN; split; exact Nat.zero_le _; exact sumV_le _ _ _
theorem segB_T {h : Ip} {s : Sg} {O D : List UInt8} (he : putE h s = 0) (h6 : s.p = 6) : segB h s O D = preT s ++ (numBytes (sumN h s O D) 2 2 ++ (numBytes s.u.toNat 2 2 ++ (O ++ D))) := by
  obtain ⟨hp, sp, hr, -, -⟩ := putE_zero he
  have hns := ((rightS_facts hr).2.2.1 h6).2.2.2.2.2
  have h16 : atS h.p = (preT s).length := by rw [len_preT]; unfold atS; rw [← sp, if_pos h6]
  unfold segB sumN
  rw [hns]
  simp only [Bool.false_eq_true, if_false]
  generalize sumV h (seg0 s O D) (atS h.p) = N
  rw [seg0_T h6, h16, set_two, num_two]
theorem segB_U {h : Ip} {s : Sg} {O D : List UInt8} (he : putE h s = 0) (h6 : s.p ≠ 6) : segB h s O D = preU s ++ (numBytes (sumN h s O D) 2 2 ++ (O ++ D)) := by
  obtain ⟨hp, sp, hr, -, -⟩ := putE_zero he
  have hk : atS h.p = (preU s).length := by rw [len_preU]; unfold atS; rw [← sp, if_neg h6]
  unfold segB sumN
  cases hn : s.ns
  · simp only [Bool.false_eq_true, if_false]
    generalize sumV h (seg0 s O D) (atS h.p) = N
    rw [seg0_U h6, hk, set_two, num_two]
  · simp only [if_true]
    rw [seg0_U h6]
    rfl
structure TcpP (s : Sg) (N : Nat) (O D L : List UInt8) : Prop where
  a : nmB L 0 2 = s.a.toNat
  b : nmB L 2 2 = s.b.toNat
  q : nmB L 4 4 = s.q
  k : nmB L 8 4 = s.k
  wd : nmB L 12 1 = (20 + s.no) / 4 * 16
  f : nmB L 13 1 = s.f.toNat
  wn : nmB L 14 2 = s.wn.toNat
  sm : nmB L 16 2 = N
  u : nmB L 18 2 = s.u.toNat
  dr : L.drop 20 = O ++ D
theorem tcp_of {h : Ip} {s : Sg} {O D : List UInt8} (he : putE h s = 0) (h6 : s.p = 6) (hq : s.q < 4294967296) (hk : s.k < 4294967296) : TcpP s (sumN h s O D) O D (segB h s O D) := by
  obtain ⟨hp, sp, hr, -, -⟩ := putE_zero he
  obtain ⟨⟨q1, q2⟩, ⟨q3, q4⟩, q, -⟩ := rightS_facts hr
  obtain ⟨⟨q5, q6⟩, ⟨q7, q8⟩, ⟨q9, q10⟩, q11, -, -⟩ := q h6
  have e : segB h s O D = numBytes s.a.toNat 2 2 ++ (numBytes s.b.toNat 2 2 ++ (numBytes s.q 4 4 ++ (numBytes s.k 4 4 ++ (numBytes ((20 + s.no) / 4 * 16) 1 1 ++ (numBytes s.f.toNat 1 1 ++ (numBytes s.wn.toNat 2 2 ++ (numBytes (sumN h s O D) 2 2 ++ (numBytes s.u.toNat 2 2 ++ (O ++ D))))))))) := by
    rw [segB_T he h6]; simp [preT]
  have hN := sumN_le h s O D
  rw [e]
  refine ⟨?_, ?_, ?_, ?_, ?_, ?_, ?_, ?_, ?_, ?_⟩
  · rw [nm_here _ (by omega)]
  · rw [nm_skip 0 (by simp [length_numBytes]), nm_here _ (by omega)]
  · rw [nm_skip 2 (by simp [length_numBytes]), nm_skip 0 (by simp [length_numBytes]), nm_here _ (by omega)]
  · rw [nm_skip 6 (by simp [length_numBytes]), nm_skip 4 (by simp [length_numBytes]), nm_skip 0 (by simp [length_numBytes]), nm_here _ (by omega)]
  · rw [nm_skip 10 (by simp [length_numBytes]), nm_skip 8 (by simp [length_numBytes]), nm_skip 4 (by simp [length_numBytes]), nm_skip 0 (by simp [length_numBytes]), nm_here _ (by omega)]
  · rw [nm_skip 11 (by simp [length_numBytes]), nm_skip 9 (by simp [length_numBytes]), nm_skip 5 (by simp [length_numBytes]), nm_skip 1 (by simp [length_numBytes]), nm_skip 0 (by simp [length_numBytes]), nm_here _ (by omega)]
  · rw [nm_skip 12 (by simp [length_numBytes]), nm_skip 10 (by simp [length_numBytes]), nm_skip 6 (by simp [length_numBytes]), nm_skip 2 (by simp [length_numBytes]), nm_skip 1 (by simp [length_numBytes]), nm_skip 0 (by simp [length_numBytes]), nm_here _ (by omega)]
  · rw [nm_skip 14 (by simp [length_numBytes]), nm_skip 12 (by simp [length_numBytes]), nm_skip 8 (by simp [length_numBytes]), nm_skip 4 (by simp [length_numBytes]), nm_skip 3 (by simp [length_numBytes]), nm_skip 2 (by simp [length_numBytes]), nm_skip 0 (by simp [length_numBytes]), nm_here _ (by omega)]
  · rw [nm_skip 16 (by simp [length_numBytes]), nm_skip 14 (by simp [length_numBytes]), nm_skip 10 (by simp [length_numBytes]), nm_skip 6 (by simp [length_numBytes]), nm_skip 5 (by simp [length_numBytes]), nm_skip 4 (by simp [length_numBytes]), nm_skip 2 (by simp [length_numBytes]), nm_skip 0 (by simp [length_numBytes]), nm_here _ (by omega)]
  · have e2 : ∀ P R : List UInt8, P.length = 20 → (P ++ R).drop 20 = R := fun P R hl => by rw [← hl, List.drop_left]
    have e3 := e2 (numBytes s.a.toNat 2 2 ++ (numBytes s.b.toNat 2 2 ++ (numBytes s.q 4 4 ++ (numBytes s.k 4 4 ++ (numBytes ((20 + s.no) / 4 * 16) 1 1 ++ (numBytes s.f.toNat 1 1 ++ (numBytes s.wn.toNat 2 2 ++ (numBytes (sumN h s O D) 2 2 ++ numBytes s.u.toNat 2 2)))))))) (O ++ D) (by simp [length_numBytes])
    simpa using e3
structure UdpP (s : Sg) (N : Nat) (O D L : List UInt8) : Prop where
  a : nmB L 0 2 = s.a.toNat
  b : nmB L 2 2 = s.b.toNat
  n : nmB L 4 2 = 8 + s.nd
  sm : nmB L 6 2 = N
  dr : L.drop 8 = O ++ D
theorem udp_of {h : Ip} {s : Sg} {O D : List UInt8} (he : putE h s = 0) (h6 : s.p ≠ 6) : UdpP s (sumN h s O D) O D (segB h s O D) := by
  obtain ⟨hp, sp, hr, -, hsz⟩ := putE_zero he
  obtain ⟨⟨q1, q2⟩, ⟨q3, q4⟩, -, -⟩ := rightS_facts hr
  have e : segB h s O D = numBytes s.a.toNat 2 2 ++ (numBytes s.b.toNat 2 2 ++ (numBytes (8 + s.nd) 2 2 ++ (numBytes (sumN h s O D) 2 2 ++ (O ++ D)))) := by
    rw [segB_U he h6]; simp [preU]
  have hN := sumN_le h s O D
  have hn : 8 + s.nd ≤ 65535 := by unfold hdN at hsz; rw [if_neg h6] at hsz; exact hsz
  rw [e]
  refine ⟨?_, ?_, ?_, ?_, ?_⟩
  · rw [nm_here _ (by omega)]
  · rw [nm_skip 0 (by simp [length_numBytes]), nm_here _ (by omega)]
  · rw [nm_skip 2 (by simp [length_numBytes]), nm_skip 0 (by simp [length_numBytes]), nm_here _ (by omega)]
  · rw [nm_skip 4 (by simp [length_numBytes]), nm_skip 2 (by simp [length_numBytes]), nm_skip 0 (by simp [length_numBytes]), nm_here _ (by omega)]
  · have e2 : ∀ P R : List UInt8, P.length = 8 → (P ++ R).drop 8 = R := fun P R hl => by rw [← hl, List.drop_left]
    have e3 := e2 (numBytes s.a.toNat 2 2 ++ (numBytes s.b.toNat 2 2 ++ (numBytes (8 + s.nd) 2 2 ++ numBytes (sumN h s O D) 2 2))) (O ++ D) (by simp [length_numBytes])
    simpa using e3
theorem sumN_told {h : Ip} {s : Sg} {O D : List UInt8} (he : putE h s = 0) (hn : s.ns = false) (ls : h.sb.length = 16) (ld : h.db.length = 16) (hO : O.length = s.no) (hD : D.length = s.nd) : sumN h s O D = sumV h (segB h s O D) (atS h.p) := by
  obtain ⟨hp, sp, hr, -, -⟩ := putE_zero he
  obtain ⟨h1, h2⟩ := atS_two he
  have hl := len_seg0 hr hO hD
  unfold segB sumN
  rw [hn]
  simp only [Bool.false_eq_true, if_false]
  rw [sumV_put h _ _ _ _ ls ld h1 (by omega)]
/-- a segment's bytes are read within whatever packet of its protocol: all is as it must be, but for the sum. -/
theorem segE_of {h h' : Ip} {s : Sg} {O D : List UInt8} (he : putE h s = 0) (hpp : h'.p = h.p) (hv : h'.v = h.v) (ls : h.sb.length = 16) (ld : h.db.length = 16) (hO : O.length = s.no) (hD : D.length = s.nd) (hq : s.q < 4294967296) (hk : s.k < 4294967296) : segE h' (segB h s O D) = if s.ns = false ∧ sumN h s O D ≠ sumV h' (segB h s O D) (atS h.p) then 12 else 0 := by
  obtain ⟨hp, sp, hr, hnv, -⟩ := putE_zero he
  have hl := len_segB (h := h) hr hO hD
  by_cases h6 : s.p = 6
  · have t := tcp_of (O := O) (D := D) he h6 hq hk
    obtain ⟨-, -, qq, -⟩ := rightS_facts hr
    obtain ⟨-, -, -, q11, q12, hns⟩ := qq h6
    unfold hdN at hl
    rw [if_pos h6] at hl
    unfold segE tcpE hdT atS
    rw [hpp, ← sp, if_pos h6, if_pos h6, t.wd, t.sm, if_neg (by omega), if_neg (by omega), if_neg (by omega), hns]
    by_cases hs : sumN h s O D ≠ sumV h' (segB h s O D) 16
    · rw [if_pos hs, if_pos ⟨rfl, hs⟩]
    · rw [if_neg hs, if_neg (fun e => hs e.2)]
  · have t := udp_of (O := O) (D := D) he h6
    have h17 : h.p = 17 := by rcases hp with hp | hp; exact absurd (sp.trans hp) h6; exact hp
    unfold hdN at hl
    rw [if_neg h6] at hl
    unfold segE udpE atS
    rw [hpp, h17, if_neg (by decide), if_pos rfl, if_neg (by omega), t.n, t.sm, if_neg (by omega), if_neg (by omega), hv, if_neg (show ¬ (17 : Int) = 6 by decide)]
    have key : (sumN h s O D == 0 && !h.v) = s.ns := by
      cases hn : s.ns
      · have h0 : sumN h s O D ≠ 0 := by
          unfold sumN
          rw [hn]
          exact sumV_pos h _ _ h17
        simp [h0]
      · have h0 : sumN h s O D = 0 := by unfold sumN; rw [hn]; rfl
        rw [hn] at hnv
        have : h.v = false := by simpa using hnv
        simp [h0, this]
    rw [key]
/-- it is read as what it was. -/
theorem gotS_of {h : Ip} {s : Sg} {O D : List UInt8} (he : putE h s = 0) (hO : O.length = s.no) (hD : D.length = s.nd) (hq : s.q < 4294967296) (hk : s.k < 4294967296) (ao ad : Option Addr) (co cd : Nat) : (∃ ao' co', gotS h (segB h s O D) ao co ad cd = { s with ao := ao', co := co', ad := ad, cd := cd } ∧ (ao' = ao ∧ co' = co ∨ ao' = none ∧ co' = 0 ∧ O = [])) ∧ optS h (segB h s O D) = O ∧ datS h (segB h s O D) = D := by
  obtain ⟨hp, sp, hr, hnv, -⟩ := putE_zero he
  have hl := len_segB (h := h) hr hO hD
  obtain ⟨⟨q1, q2⟩, ⟨q3, q4⟩, q, qu⟩ := rightS_facts hr
  by_cases h6 : s.p = 6
  · have t := tcp_of (O := O) (D := D) he h6 hq hk
    obtain ⟨⟨q5, q6⟩, ⟨q7, q8⟩, ⟨q9, q10⟩, q11, q12, hns⟩ := q h6
    unfold hdN at hl
    rw [if_pos h6] at hl
    have hT : hdT (segB h s O D) = 20 + s.no := by unfold hdT; rw [t.wd]; omega
    refine ⟨⟨ao, co, ?_, .inl ⟨rfl, rfl⟩⟩, ?_, ?_⟩
    · unfold gotS tcpS
      rw [← sp, if_pos h6, hT, t.a, t.b, t.q, t.k, t.f, t.wn, t.u, hl, Int.toNat_of_nonneg q1, Int.toNat_of_nonneg q3, Int.toNat_of_nonneg q5, Int.toNat_of_nonneg q7, Int.toNat_of_nonneg q9, show 20 + s.no - 20 = s.no by omega, show 20 + s.no + s.nd - (20 + s.no) = s.nd by omega, ← h6, ← hns]
    · unfold optS
      rw [← sp, if_pos h6, hT, t.dr, show 20 + s.no - 20 = O.length by omega, List.take_left]
    · unfold datS hdS
      rw [← sp, if_pos h6, hT, ← List.drop_drop, t.dr, ← hO, List.drop_left]
  · have t := udp_of (O := O) (D := D) he h6
    have h17 : h.p = 17 := by rcases hp with hp | hp; exact absurd (sp.trans hp) h6; exact hp
    obtain ⟨u1, u2, u3, u4, u5, u6⟩ := qu h6
    have hO0 : O = [] := List.eq_nil_of_length_eq_zero (by omega)
    unfold hdN at hl
    rw [if_neg h6] at hl
    have key : (sumN h s O D == 0 && !h.v) = s.ns := by
      cases hn : s.ns
      · have h0 : sumN h s O D ≠ 0 := by
          unfold sumN
          rw [hn]
          exact sumV_pos h _ _ h17
        simp [h0]
      · have h0 : sumN h s O D = 0 := by unfold sumN; rw [hn]; rfl
        rw [hn] at hnv
        have : h.v = false := by simpa using hnv
        simp [h0, this]
    refine ⟨⟨none, 0, ?_, .inr ⟨rfl, rfl, hO0⟩⟩, ?_, ?_⟩
    · unfold gotS udpS
      rw [h17, if_neg (by decide), t.a, t.b, t.sm, key, hl, Int.toNat_of_nonneg q1, Int.toNat_of_nonneg q3, show 8 + s.nd - 8 = s.nd by omega, show (17 : Int) = s.p by rw [sp, h17], ← u6]
      cases s
      simp_all
    · unfold optS
      rw [h17, if_neg (by decide), hO0]
    · unfold datS hdS
      rw [h17, if_neg (by decide), t.dr, hO0]
      rfl
end Go.Proofs.Ytcfckhdohcaffaa
