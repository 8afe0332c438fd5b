/-
  The walk of header.parseFour.
-/
import Derived.Test.YtihakjcccbionaaGreatDoorMif
import Derived.Test.YtihakjcccbionaaGreatDoorMrd
import Derived.Deep.CutRange
import Derived.Deep.RegionLaw
import Derived.Test.YtihakjcccbionaaGreatDoorBits
namespace Go.Proofs.YtihakjcccbionaaGreatDoor
open Go.RowKit
attribute [local go_sem ↓] exec_span exec_put exec_build heap_alloc_new heap_old
attribute [local go_sem] spanQ_ptr spanC_some heap_of_drew heap_of_drewN rs_arr rs_ad rs_ip rs_rip putAt_ptr putOk_ptr oldOk_some World.setRow_alloc_new
set_option maxRecDepth 100000
set_option linter.unusedVariables false
set_option linter.unusedSimpArgs false

/-- a packet of which nothing is told but these. -/
def nIp (a b c d : Int) (f : Bool) : Ip := ⟨false, false, List.replicate 16 0, false, List.replicate 16 0, a, b, c, d, f, 0, none, 0, 0, none, 0, 0⟩
theorem nIp_ok (a b c d : Int) (f : Bool) : IpV (ipL (nIp a b c d f)).toArray (nIp a b c d f) := ⟨rfl, by simp [nIp], by simp [nIp]⟩
theorem built_ip5 (a b c d : Int) (f : Bool) : Tryz.prog.built 51 [(3, .int .i64 a), (4, .int .i64 b), (5, .int .i64 c), (6, .int .i64 d), (7, .bool f)] = some (ipL (nIp a b c d f)).toArray := by kernel_rfl
theorem built_ip0 : Tryz.prog.built 51 [] = some (ipL (nIp 0 0 0 0 false)).toArray := by kernel_rfl
theorem and15 {N : Nat} (h : N < 256) : bits BinOp.and IntKind.u64 (N : Int) 15 = ((N % 16 : Nat) : Int) := by
  have e := u64_and_nat N 15 (by omega) (by omega)
  have e2 := Nat.and_two_pow_sub_one_eq_mod N 4
  simp only [show (2 : Nat) ^ 4 - 1 = 15 from rfl, show (2 : Nat) ^ 4 = 16 from rfl] at e2
  rw [e2] at e
  exact e

/-- the words of a packet whose addresses are being read. -/
def sIp (a b c d : Int) (f : Bool) (S D : List UInt8) : Ip := ⟨false, false, S, false, D, a, b, c, d, f, 0, none, 0, 0, none, 0, 0⟩
def pad16 (S : List UInt8) : List UInt8 := S ++ List.replicate (16 - S.length) 0
theorem len_pad16 {S : List UInt8} (h : S.length ≤ 16) : (pad16 S).length = 16 := by unfold pad16; simp; omega
theorem splice_src (a b c d : Int) (f : Bool) (S D : List UInt8) (h : S.length ≤ 16) : splice (ipL (sIp a b c d f (List.replicate 16 0) D)) 2 (S.map byteV) = ipL (sIp a b c d f (pad16 S) D) := by
  unfold splice ipL sIp adL pad16
  simp only [List.cons_append, List.take_succ_cons, List.take_zero, List.nil_append, List.length_map, List.cons.injEq, true_and]
  rw [Nat.add_comm 2 S.length, List.drop_succ_cons, List.drop_succ_cons, List.drop_append_of_le_length (by simpa using h), ← List.map_drop, List.drop_replicate, List.map_append, List.append_assoc]
  rfl
theorem splice_dst (a b c d : Int) (f : Bool) (S D : List UInt8) (hS : S.length = 16) (h : D.length ≤ 16) : splice (ipL (sIp a b c d f S (List.replicate 16 0))) 19 (D.map byteV) = ipL (sIp a b c d f S (pad16 D)) := by
  have e : ∀ X : List UInt8, ipL (sIp a b c d f S X) = (.bool false :: .bool false :: S.map byteV) ++ (.bool false :: (X.map byteV ++ ipT (sIp a b c d f S X))) := fun X => rfl
  have eT : ∀ X Y : List UInt8, ipT (sIp a b c d f S X) = ipT (sIp a b c d f S Y) := fun X Y => rfl
  rw [e, e, eT (List.replicate 16 0) (pad16 D)]
  generalize ipT (sIp a b c d f S (pad16 D)) = T
  have e0 : ((.bool false :: .bool false :: S.map byteV : List Value)).length = 18 := by simp [hS]
  generalize (.bool false :: .bool false :: S.map byteV : List Value) = P at e0
  unfold splice pad16
  rw [List.take_append, e0, List.take_of_length_le (l := P) (by omega), List.drop_append, e0, List.drop_of_length_le (l := P) (by omega)]
  simp only [List.length_map]
  rw [show 19 - 18 = 1 from rfl, show 19 + D.length - 18 = D.length + 1 by omega, List.drop_succ_cons, List.take_succ_cons, List.take_zero, List.drop_append_of_le_length (by simpa using h), ← List.map_drop, List.drop_replicate, List.map_append]
  simp
/-- what was there is as it was, and the place of the packet has nothing yet. -/
def Frm (w w' : World) : Prop := Below w.heap.size w w' ∧ w'.heap[w.heap.size]? = some (.cells (ipL (nIp 0 0 0 0 false)).toArray 51 (0, 0))
theorem Frm.below {w W W' : World} (h : Frm w W) (hb : Below W.heap.size W W') : Frm w W' := ⟨h.1.trans (hb.mono h.1.size), (hb.block _ (Array.getElem?_eq_some_iff.1 h.2).1).trans h.2⟩
theorem Frm.grown {w W W' : World} {g : Nat} (h : Frm w W) (hg : W.grownBy W' (some g)) (hlt : w.heap.size < g) : Frm w W' :=
  ⟨h.1.grown hg h.1.size (fun k hk => by cases hk; omega), (hg.block _ (Array.getElem?_eq_some_iff.1 h.2).1 (by intro e; cases e; omega)).trans h.2⟩
theorem Frm.at {w W W' : World} {g : Nat} (h : Frm w W) (hb : Below g W W') (hlt : w.heap.size < g) : Frm w W' := ⟨h.1.trans (hb.mono (Nat.le_of_lt hlt)), (hb.block _ hlt).trans h.2⟩
theorem asked_reader {g G : Nat} {A : Option Addr} {l : List UInt8} {c k : Nat} {er : Int} {w w' : World} (h : RdS g A l c w k er) (hb : Below G w w') (hlt : g < G) : RdS g A l c w' k er :=
  ⟨h.rd.kept (hb.block g hlt), h.by'.below (hb.mono (Nat.le_of_lt hlt)), h.le⟩
/-- an address was asked for, and copied. -/
def Asked (w : World) (g G : Nat) (A : Option Addr) (l : List UInt8) (c K : Nat) (wx : World) (S : List UInt8) : Prop := ∃ k r, RdS g A l c wx k r ∧ RdI l (K + 4) k r ∧ S.length ≤ 4 ∧ (K + 4 ≤ l.length → S = (l.drop K).take 4) ∧ Frm w wx ∧ G < wx.heap.size
def AskS (w : World) (g G : Nat) (A : Option Addr) (l : List UInt8) (c : Nat) (p q r s : Int) (f : Bool) (wx : World) : Prop := ∃ S, Asked w g G A l c 12 wx S ∧ wx.heap[G]? = some (.cells (ipL (sIp p q r s f (pad16 S) (List.replicate 16 0))).toArray 51 (0, 0))
def AskD (w : World) (g G : Nat) (A : Option Addr) (l : List UInt8) (c : Nat) (p q r s : Int) (f : Bool) (S : List UInt8) (wx : World) : Prop := ∃ D, Asked w g G A l c 16 wx D ∧ wx.heap[G]? = some (.cells (ipL (sIp p q r s f (pad16 S) (pad16 D))).toArray 51 (0, 0))

theorem info_ip : (Tryz.prog.info? 51).map (·.size) = some 43 := by kernel_rfl
theorem and_pow (N i : Nat) : N &&& 2 ^ i = if N.testBit i then 2 ^ i else 0 := by
  apply Nat.eq_of_testBit_eq
  intro j
  rw [Nat.testBit_and, Nat.testBit_two_pow]
  by_cases hij : i = j
  · subst hij
    cases h : N.testBit i <;> simp [Nat.testBit_two_pow]
  · simp [hij]
    split <;> simp [Nat.testBit_two_pow, hij]
theorem and_hi {N : Nat} (h : N < 65536) : (bits BinOp.and IntKind.i64 (N : Int) 32768 != 0) = decide (32768 ≤ N) := by
  have e := i64_and_nat N 32768 (by omega) (by omega)
  have e2 := and_pow N 15
  rw [show (2 : Nat) ^ 15 = 32768 from rfl] at e2
  have e3 : N.testBit 15 = decide (32768 ≤ N) := by
    rw [Nat.testBit_eq_decide_div_mod_eq, show (2 : Nat) ^ 15 = 32768 from rfl]
    congr 1
    apply propext; omega
  rw [show (32768 : Int) = ((32768 : Nat) : Int) from rfl, e, e2, e3]
  by_cases hN : 32768 ≤ N
  · simp [hN]
  · simp [hN]
theorem and_df {N : Nat} (h : N < 65536) : (bits BinOp.and IntKind.i64 (N : Int) 16384 != 0) = decide (N / 16384 % 2 = 1) := by
  have e := i64_and_nat N 16384 (by omega) (by omega)
  have e2 := and_pow N 14
  rw [show (2 : Nat) ^ 14 = 16384 from rfl] at e2
  have e3 : N.testBit 14 = decide (N / 16384 % 2 = 1) := by
    rw [Nat.testBit_eq_decide_div_mod_eq, show (2 : Nat) ^ 14 = 16384 from rfl]
  rw [show (16384 : Int) = ((16384 : Nat) : Int) from rfl, e, e2, e3]
  by_cases hN : N / 16384 % 2 = 1
  · simp [hN]
  · simp [hN]
theorem and_lo {N : Nat} (h : N < 65536) : (bits BinOp.and IntKind.i64 (N : Int) 16383 != 0) = decide (N % 16384 ≠ 0) := by
  have e := i64_and_nat N 16383 (by omega) (by omega)
  have e2 := Nat.and_two_pow_sub_one_eq_mod N 14
  simp only [show (2 : Nat) ^ 14 - 1 = 16383 from rfl, show (2 : Nat) ^ 14 = 16384 from rfl] at e2
  rw [show (16383 : Int) = ((16383 : Nat) : Int) from rfl, e, e2]
  by_cases hN : N % 16384 = 0
  · simp [hN]
  · simp [hN]; omega
/-- m bytes of l from the k-th on, as a number. -/
def nmB (l : List UInt8) (k m : Nat) : Nat := numS ((l.drop k).take m)
/-- what is wrong with bytes that are enough for a head. -/
def p4S (len q n3 n5 n8 hs : Nat) : Int := if 4 * q < 20 ∨ n3 < 4 * q then 11 else if len < n3 then 10 else if n3 < len then 11 else if n8 ≠ hs then 12 else if 32768 ≤ n5 then 11 else if n5 % 16384 ≠ 0 then 15 else 0
def p4E (l : List UInt8) : Int := if l.length < 20 then 10 else p4S l.length (nmB l 0 1 % 16) (nmB l 2 2) (nmB l 6 2) (nmB l 10 2) (headS (l.take (4 * (nmB l 0 1 % 16))))
/-- the packet, its lists at ao and ad. -/
def p4H (l : List UInt8) (ao : Option Addr) (co : Nat) (ad : Option Addr) (cd : Nat) : Ip :=
  ⟨false, false, pad16 ((l.drop 12).take 4), false, pad16 ((l.drop 16).take 4), nmB l 9 1, nmB l 8 1, nmB l 1 1, nmB l 4 2, decide (nmB l 6 2 / 16384 % 2 = 1), 0, ao, 4 * (nmB l 0 1 % 16) - 20, co, ad, l.length - 4 * (nmB l 0 1 % 16), cd⟩
/-- a list that a function has given back, in memory of its own. -/
def Gave (w w' : World) (a : Option Addr) (c : Nat) (b : List UInt8) : Prop := Byt w' w'.heap.size a b ∧ b.length ≤ c ∧ (a = none → c = 0) ∧ ∀ x, a = some x → w.heap.size ≤ x.block
def Pkt4 (w w' : World) (l : List UInt8) (X : Array Value) : Prop := ∃ ao co ad cd, IpV X (p4H l ao co ad cd) ∧ Gave w w' ao co ((l.drop 20).take (4 * (nmB l 0 1 % 16) - 20)) ∧ Gave w w' ad cd (l.drop (4 * (nmB l 0 1 % 16)))
def P4 (w : World) (l : List UInt8) (e : Ending) (w' : World) : Prop := ∃ X, e = .returned (.tuple #[.agg X, .int .i64 (p4E l)]) ∧ Below w.heap.size w w' ∧ (p4E l ≠ 0 → X = (ipL (nIp 0 0 0 0 false)).toArray) ∧ (p4E l = 0 → Pkt4 w w' l X)
theorem p4_err {w W : World} {l : List UInt8} {E : Int} (hE : p4E l = E) (h0 : E ≠ 0) (hb : Below w.heap.size w W) : P4 w l (.returned (.tuple #[.agg (ipL (nIp 0 0 0 0 false)).toArray, .int .i64 E])) W :=
  ⟨_, by rw [hE], hb, fun _ => rfl, fun h => absurd (hE.symm.trans h) h0⟩
theorem p4_errZ {w W : World} {l : List UInt8} {E : Int} {Z : Array Value} (hZ : Z = (ipL (nIp 0 0 0 0 false)).toArray) (hE : p4E l = E) (h0 : E ≠ 0) (hb : Below w.heap.size w W) : P4 w l (.returned (.tuple #[.agg Z, .int .i64 E])) W := by
  rw [hZ]; exact p4_err hE h0 hb
theorem Byt.other {w w' : World} {B g : Nat} {A : Option Addr} {l : List UInt8} (h : Byt w B A l) (hB : B ≤ w.heap.size) (hg : w.grownBy w' (some g)) (hne : ∀ a, A = some a → a.block ≠ g) : Byt w' B A l := fun hl => by
  obtain ⟨b, off, e, hb, hc⟩ := h hl
  have hne' := hne _ e
  exact ⟨b, off, e, hb, fun i hi => (World.cell?_of_block (w := w) (hg.block b (by omega) (by intro e2; cases e2; exact hne' rfl))).trans (hc i hi)⟩
theorem ip_set41 (h : Ip) (ls : h.sb.length = 16) (ld : h.db.length = 16) (a : Option Addr) (n c : Nat) : (ipL h).toArray.setIfInBounds 41 (.slice a n c) = (ipL { h with ao := a, no := n, co := c }).toArray := by
  rw [List.setIfInBounds_toArray]
  congr 1
  simp only [ipL, List.set_cons_succ]
  rw [show 40 = (adL h.sv h.sb).length + ((adL h.dv h.db).length + 6) by rw [lenI_adL ls, lenI_adL ld], List.set_append_right _ _ (by omega), Nat.add_sub_cancel_left, List.set_append_right _ _ (by omega), Nat.add_sub_cancel_left]
  rfl
theorem ip_set42 (h : Ip) (ls : h.sb.length = 16) (ld : h.db.length = 16) (a : Option Addr) (n c : Nat) : (ipL h).toArray.setIfInBounds 42 (.slice a n c) = (ipL { h with ad := a, nd := n, cd := c }).toArray := by
  rw [List.setIfInBounds_toArray]
  congr 1
  simp only [ipL, List.set_cons_succ]
  rw [show 41 = (adL h.sv h.sb).length + ((adL h.dv h.db).length + 7) by rw [lenI_adL ls, lenI_adL ld], List.set_append_right _ _ (by omega), Nat.add_sub_cancel_left, List.set_append_right _ _ (by omega), Nat.add_sub_cancel_left]
  rfl

set_option maxHeartbeats 4000000 in
theorem parse4_any (w : World) (B : Nat) (A : Option Addr) (l : List UInt8) (c : Nat) (hlc : l.length ≤ c) (hn : l.length ≤ 140737488420864) (hb : Byt w B A l) (hB : B ≤ w.heap.size) :
    Calls Tryz.prog 57 #[.slice A l.length c] w fun e w' => P4 w l e w' := by
  have HN := hide (fun W (hb' : Below w.heap.size w W) => newS W B A l c hn (hb.keep fun p hp => hb'.cell (by omega)) (Nat.le_trans hB hb'.size))
  have HB0 := hide hb
  obtain ⟨n, hln⟩ : ∃ n, n = l.length := ⟨_, rfl⟩
  have HL := hide hln
  have hnl := hide hn
  rw [← hln] at HN hlc hn ⊢
  clear hln hb
  go_enter Tryz.func57, Tryz.ntmps57
  go_wp2_with fail
  refine (HN.out _ ((Below.refl _ w).alloc (Nat.le_refl _) _)).mono ?_
  rintro e w1 ⟨g, A', c', rfl, hq, hc', hA', hgw, hb1⟩
  have hgw' : w.heap.size < g := by simp at hgw; omega
  have Z1 : Hid (w1.heap[w.heap.size]? = some (.cells (ipL (nIp 0 0 0 0 false)).toArray 51 (0, 0))) := hide ((hb1.block _ (by simp)).trans (heap_alloc_new w _))
  have B1 : Hid (Frm w w1) := hide ⟨((Below.refl _ w).alloc (Nat.le_refl _) _).trans (hb1.mono (by simp)), Z1.out⟩
  clear Z1
  have Q1 := hide hq
  have I1 : Hid (RdI l 0 0 0) := hide (.inl ⟨rfl, rfl, Nat.zero_le _⟩)
  have G1 : Hid (w1.grownBy w1 (some g)) := hide (World.grownBy.refl _ _)
  have HC := hide hc'
  have HG := hide hgw'

  clear hq hc' hA' hgw hb1 hgw'
  go_wp2_with fail
  refine (numI w1 1 Q1.out I1.out (by decide) (by decide) (by rw [← HL.out]; exact HC.out) hnl.out).mono ?_
  rintro e w2 ⟨N1, k1, r1, rfl, hq, hi, hN, hv, hg⟩
  have Q2 := hide hq
  have I2 : Hid (RdI l 1 k1 r1) := hide hi
  have V1 : Hid (1 ≤ l.length → N1 = numS ((l.drop 0).take 1)) := hide hv
  have G2 := hide (grown_trans G1.out hg)
  have b1 : N1 < 256 := by simpa using hN
  clear hq hi hN hv hg Q1 G1
  have ha1 := and15 b1
  obtain ⟨q, hq⟩ : ∃ q, q = N1 % 16 := ⟨_, rfl⟩
  have hq16 : q < 16 := by omega
  rw [← hq] at ha1
  have HQ := hide hq
  clear hq
  go_wp2_with fail
  refine (numI w2 1 Q2.out I2.out (by decide) (by decide) (by rw [← HL.out]; exact HC.out) hnl.out).mono ?_
  rintro e w3 ⟨N2, k2, r2, rfl, hq, hi, hN, hv, hg⟩
  have Q3 := hide hq
  have I3 : Hid (RdI l 2 k2 r2) := hide hi
  have V2 : Hid (2 ≤ l.length → N2 = numS ((l.drop 1).take 1)) := hide hv
  have G3 := hide (grown_trans G2.out hg)
  have b2 : N2 < 256 := by simpa using hN
  clear hq hi hN hv hg Q2 G2
  clear I2
  go_wp2_with fail
  refine (numI w3 2 Q3.out I3.out (by decide) (by decide) (by rw [← HL.out]; exact HC.out) hnl.out).mono ?_
  rintro e w4 ⟨N3, k3, r3, rfl, hq, hi, hN, hv, hg⟩
  have Q4 := hide hq
  have I4 : Hid (RdI l 4 k3 r3) := hide hi
  have V3 : Hid (4 ≤ l.length → N3 = numS ((l.drop 2).take 2)) := hide hv
  have G4 := hide (grown_trans G3.out hg)
  have b3 : N3 < 65536 := by simpa using hN
  clear hq hi hN hv hg Q3 G3
  clear I3
  go_wp2_with fail
  refine (numI w4 2 Q4.out I4.out (by decide) (by decide) (by rw [← HL.out]; exact HC.out) hnl.out).mono ?_
  rintro e w5 ⟨N4, k4, r4, rfl, hq, hi, hN, hv, hg⟩
  have Q5 := hide hq
  have I5 : Hid (RdI l 6 k4 r4) := hide hi
  have V4 : Hid (6 ≤ l.length → N4 = numS ((l.drop 4).take 2)) := hide hv
  have G5 := hide (grown_trans G4.out hg)
  have b4 : N4 < 65536 := by simpa using hN
  clear hq hi hN hv hg Q4 G4
  clear I4
  go_wp2_with fail
  refine (numI w5 2 Q5.out I5.out (by decide) (by decide) (by rw [← HL.out]; exact HC.out) hnl.out).mono ?_
  rintro e w6 ⟨N5, k5, r5, rfl, hq, hi, hN, hv, hg⟩
  have Q6 := hide hq
  have I6 : Hid (RdI l 8 k5 r5) := hide hi
  have V5 : Hid (8 ≤ l.length → N5 = numS ((l.drop 6).take 2)) := hide hv
  have G6 := hide (grown_trans G5.out hg)
  have b5 : N5 < 65536 := by simpa using hN
  clear hq hi hN hv hg Q5 G5
  clear I5
  go_wp2_with fail
  refine (numI w6 1 Q6.out I6.out (by decide) (by decide) (by rw [← HL.out]; exact HC.out) hnl.out).mono ?_
  rintro e w7 ⟨N6, k6, r6, rfl, hq, hi, hN, hv, hg⟩
  have Q7 := hide hq
  have I7 : Hid (RdI l 9 k6 r6) := hide hi
  have V6 : Hid (9 ≤ l.length → N6 = numS ((l.drop 8).take 1)) := hide hv
  have G7 := hide (grown_trans G6.out hg)
  have b6 : N6 < 256 := by simpa using hN
  clear hq hi hN hv hg Q6 G6
  clear I6
  go_wp2_with fail
  refine (numI w7 1 Q7.out I7.out (by decide) (by decide) (by rw [← HL.out]; exact HC.out) hnl.out).mono ?_
  rintro e w8 ⟨N7, k7, r7, rfl, hq, hi, hN, hv, hg⟩
  have Q8 := hide hq
  have I8 : Hid (RdI l 10 k7 r7) := hide hi
  have V7 : Hid (10 ≤ l.length → N7 = numS ((l.drop 9).take 1)) := hide hv
  have G8 := hide (grown_trans G7.out hg)
  have b7 : N7 < 256 := by simpa using hN
  clear hq hi hN hv hg Q7 G7
  clear I7
  go_wp2_with fail
  refine (numI w8 2 Q8.out I8.out (by decide) (by decide) (by rw [← HL.out]; exact HC.out) hnl.out).mono ?_
  rintro e w9 ⟨N8, k8, r8, rfl, hq, hi, hN, hv, hg⟩
  have Q9 := hide hq
  have I9 : Hid (RdI l 12 k8 r8) := hide hi
  have V8 : Hid (12 ≤ l.length → N8 = numS ((l.drop 10).take 2)) := hide hv
  have G9 := hide (grown_trans G8.out hg)
  have b8 : N8 < 65536 := by simpa using hN
  clear hq hi hN hv hg Q8 G8
  clear I8
  obtain ⟨df, hdf⟩ : ∃ d : Bool, (bits BinOp.and IntKind.i64 (N5 : Int) 16384 != 0) = d := ⟨_, rfl⟩
  obtain ⟨X, hX⟩ : ∃ X, X = (ipL (nIp N7 N6 N2 N4 df)).toArray := ⟨_, rfl⟩
  have hbl := built_ip5 N7 N6 N2 N4 df
  rw [← hX] at hbl
  have hXV : IpV X (nIp N7 N6 N2 N4 df) := by rw [hX]; exact nIp_ok _ _ _ _ _
  have hXs : X.size = 43 := hXV.size
  have hXo : allOne X = true := hXV.one
  have HX := hide hXV
  clear hX hXV
  go_upto_region 6 with (fail)
  have hq9 := Q9.out.below ((Below.refl w9.heap.size w9).alloc (Nat.le_refl _) (.cells X 51))
  have hr9 := heap_alloc_new w9 (.cells X 51)
  have hb9 : Frm w (w9.alloc (.cells X 51)) := (B1.out.grown G9.out HG.out).below ((Below.refl _ _).alloc (Nat.le_refl _) _)
  obtain ⟨G, hGe⟩ : ∃ G, G = w9.heap.size := ⟨_, rfl⟩
  have hgG : g < G := by rw [hGe]; exact Q9.out.rd.lt
  have hXe : X = (ipL (sIp N7 N6 N2 N4 df (List.replicate 16 0) (List.replicate 16 0))).toArray := HX.out.eq
  rw [← hGe] at hr9 ⊢
  generalize w9.alloc (.cells X 51) = W10 at hq9 hr9 hb9 ⊢
  rw [hXe] at hr9
  have Q10 := hide hq9
  have R10 := hide hr9
  have B10 := hide hb9
  have HgG := hide hgG
  clear hq9 hr9 hb9 hgG hGe Q9 G9 B1 hXe HX hbl hXs hXo
  go_cut [] from 51 to 56 (fun wx => AskS w g G A' l c' N7 N6 N2 N4 df wx)
  case first =>
    have q0 := Q10.out.below (Below.refl _ _).drew
    go_region_law (first
      | (go_simp; go_at_call 53; refine (takeI W10.drew 4 q0 I9.out (by rw [← HL.out]; exact HC.out) hnl.out).mono ?_; rintro e wT ⟨b, Ab, cb, kT, rT, rfl, hbyT, hcbT, -, -, hqT, hiT, hblT, hbvT, hgT⟩
         have hrT : wT.heap[G]? = some (.cells (ipL (sIp N7 N6 N2 N4 df (List.replicate 16 0) (List.replicate 16 0))).toArray 51 (0, 0)) := (hgT.block G (Array.getElem?_eq_some_iff.1 R10.out).1 (by intro e; cases e; have := HgG.out; omega)).trans R10.out
         have hfT := (B10.out.below (Below.refl _ _).drew).grown hgT HG.out
         have hkT := HgG.out
         have RT := hide hrT
         clear hrT)
      | (refine step_copy_splice rfl (.tmp 53) (.tmp 55) 28 28 rfl 5 Tryz.underlying28 (by kernel_rfl) (some ⟨G, 2, none⟩) Ab 16 16 b.length cb rfl rfl G 2 (ipL (sIp N7 N6 N2 N4 df (List.replicate 16 0) (List.replicate 16 0))) 51 RT.out (b.map byteV) (by rw [List.length_map]; exact (Nat.min_eq_left (by omega)).symm) (fun hp => ⟨rfl, hbyT.srcs (by simpa using hp)⟩) (by rw [List.length_map]; simp [ipL, ipT, sIp, adL]; omega) (byteV_one b) G wT (Below.refl _ _) (Nat.le_refl _) ?_; intro wC hgC hbC)
      | fail)
    have hrC := hgC.out
    rw [splice_src _ _ _ _ _ b _ (by omega)] at hrC
    have hfin : AskS w g G A' l c' N7 N6 N2 N4 df wC := ⟨b, ⟨kT, rT, asked_reader hqT hbC hkT, hiT, hblT, hbvT, hfT.at hbC (by have := HG.out; omega), (Array.getElem?_eq_some_iff.1 hrC).1⟩, hrC⟩
    clear hgC hbC hrC hqT hiT hblT hbvT hfT hgT hbyT RT hkT q0
    try go_wp2_with fail
    go_meet
    exact hfin
  case rest =>
    obtain ⟨S, ⟨k9, r9, hq, hi, hS4, hSv, hf, hGl⟩, hr⟩ := hcut
    have Q11 := hide hq
    have I10 := hide hi
    have F11 := hide hf
    have R11 := hide hr
    have HSl := hide hS4
    have HSv := hide hSv
    clear hq hi hf hr hS4 hSv hGl Q10 R10 B10 I9
    go_upto_region 7 with (fail)
    go_cut [] from 57 to 62 (fun wx => AskD w g G A' l c' N7 N6 N2 N4 df S wx)
    case first =>
      have q0 := Q11.out.below (Below.refl _ _).drew
      go_region_law (first
        | (go_simp; go_at_call 53; refine (takeI wc.drew 4 q0 I10.out (by rw [← HL.out]; exact HC.out) hnl.out).mono ?_; rintro e wT ⟨b, Ab, cb, kT, rT, rfl, hbyT, hcbT, -, -, hqT, hiT, hblT, hbvT, hgT⟩
           have hrT : wT.heap[G]? = some (.cells (ipL (sIp N7 N6 N2 N4 df (pad16 S) (List.replicate 16 0))).toArray 51 (0, 0)) := (hgT.block G (Array.getElem?_eq_some_iff.1 R11.out).1 (by intro e; cases e; have := HgG.out; omega)).trans R11.out
           have hfT := (F11.out.below (Below.refl _ _).drew).grown hgT HG.out
           have hkT := HgG.out
           have hpT : (pad16 S).length = 16 := len_pad16 (by have := HSl.out; omega)
           have RT := hide hrT
           clear hrT)
        | (refine step_copy_splice rfl (.tmp 59) (.tmp 61) 28 28 rfl 5 Tryz.underlying28 (by kernel_rfl) (some ⟨G, 19, none⟩) Ab 16 16 b.length cb rfl rfl G 19 (ipL (sIp N7 N6 N2 N4 df (pad16 S) (List.replicate 16 0))) 51 RT.out (b.map byteV) (by rw [List.length_map]; exact (Nat.min_eq_left (by omega)).symm) (fun hp => ⟨rfl, hbyT.srcs (by simpa using hp)⟩) (by rw [List.length_map]; simp [ipL, ipT, sIp, adL, hpT]; omega) (byteV_one b) G wT (Below.refl _ _) (Nat.le_refl _) ?_; intro wC hgC hbC)
        | fail)
      have hrC := hgC.out
      rw [splice_dst _ _ _ _ _ _ b hpT (by omega)] at hrC
      have hfin : AskD w g G A' l c' N7 N6 N2 N4 df S wC := ⟨b, ⟨kT, rT, asked_reader hqT hbC hkT, hiT, hblT, hbvT, hfT.at hbC (by have := HG.out; omega), (Array.getElem?_eq_some_iff.1 hrC).1⟩, hrC⟩
      clear hgC hbC hrC hqT hiT hblT hbvT hfT hgT hbyT RT hkT q0
      try go_wp2_with fail
      go_meet
      exact hfin
    case rest =>
      obtain ⟨D, ⟨k10, r10, hq, hi, hD4, hDv, hf, hGl⟩, hr⟩ := hcut
      have hF0 := hf
      have hR0 := hf.2
      obtain ⟨Z, hZ⟩ : ∃ Z, Z = (ipL (nIp 0 0 0 0 false)).toArray := ⟨_, rfl⟩
      have hbl0 := built_ip0
      rw [← hZ] at hbl0 hR0
      have hZs : Z.size = 43 := by rw [hZ]; exact (nIp_ok 0 0 0 0 false).size
      have hZo : allOne Z = true := by rw [hZ]; exact (nIp_ok 0 0 0 0 false).one
      have HZ := hide hZ
      have HR := hide hr
      have HQ2 := hide hq
      have HI2 := hide hi
      have HD4 := hide hD4
      have HDv := hide hDv
      have HF := hide hf
      have hEr := err_any wc g A' l.length c' k10 r10 hq.rd
      have HEr := hide hEr
      clear hq hi hD4 hDv hf hr hZ hEr hF0 hGl Q11 I10 F11 R11
      generalize wc = W at HQ2 HR HF hR0 HEr ⊢
      have F := HF
      rcases HI2.out with ⟨hr0, hk0, hl20⟩ | ⟨hr0, hl20⟩
      · subst hr0
        have HN1 : Hid (q = nmB l 0 1 % 16) := hide (by rw [HQ.out, V1.out (by omega)]; rfl)
        have HN3 : Hid (N3 = nmB l 2 2) := hide (V3.out (by omega))
        have HN5 : Hid (N5 = nmB l 6 2) := hide (V5.out (by omega))
        have HN8 : Hid (N8 = nmB l 10 2) := hide (V8.out (by omega))
        have hn20 : 20 ≤ n := by rw [HL.out]; omega
        go_wp2_with fail
        refine HEr.out.mono ?_
        rintro e w3 ⟨rfl, rfl⟩
        have R0 := hR0
        have HE0 : Hid (p4E l = p4S n q N3 N5 N8 (headS (l.take (4 * q)))) := hide (by unfold p4E; rw [if_neg (by omega), ← HN1.out, ← HN3.out, ← HN5.out, ← HN8.out, ← HL.out])
        by_cases c1 : 4 * q < 20
        · have d1 : 4 * (q : Int) < 20 := by omega
          have hE : p4E l = 11 := by
            rw [HE0.out]; unfold p4S; rw [if_pos (.inl c1)]
          have HE := hide hE
          clear hE
          go_wp2
          have hrow := setRow_heap W w.heap.size Z Z _ _ R0
          refine bodyPost_ret (results_cell_tmp (fn := Tryz.f57) Tryz.results57 _ _ w.heap.size 51 Z (0, 0) _ rfl hrow Tryz.underlying51 rfl (by rw [hZs]; exact info_ip)) rfl ?_
          exact p4_errZ HZ.out HE.out (by decide) (below_setRow F.out.1 (Nat.le_refl _) _)
        · have d1 : ¬ 4 * (q : Int) < 20 := by omega
          by_cases c2 : N3 < 4 * q
          · have d2 : (N3 : Int) < 4 * (q : Int) := by omega
            have hE : p4E l = 11 := by
              rw [HE0.out]; unfold p4S; rw [if_pos (.inr c2)]
            have HE := hide hE
            clear hE
            go_wp2
            have hrow := setRow_heap W w.heap.size Z Z _ _ R0
            refine bodyPost_ret (results_cell_tmp (fn := Tryz.f57) Tryz.results57 _ _ w.heap.size 51 Z (0, 0) _ rfl hrow Tryz.underlying51 rfl (by rw [hZs]; exact info_ip)) rfl ?_
            exact p4_errZ HZ.out HE.out (by decide) (below_setRow F.out.1 (Nat.le_refl _) _)
          · have d2 : ¬ (N3 : Int) < 4 * (q : Int) := by omega
            have HE1 : Hid (p4E l = if n < N3 then 10 else if N3 < n then 11 else if N8 ≠ headS (l.take (4 * q)) then 12 else if 32768 ≤ N5 then 11 else if N5 % 16384 ≠ 0 then 15 else 0) := hide (by rw [HE0.out]; unfold p4S; rw [if_neg (by omega)])
            by_cases c3 : n < N3
            · have d3 : (n : Int) < (N3 : Int) := by omega
              have hE : p4E l = 10 := by
                rw [HE1.out, if_pos c3]
              have HE := hide hE
              clear hE
              go_wp2
              have hrow := setRow_heap W w.heap.size Z Z _ _ R0
              refine bodyPost_ret (results_cell_tmp (fn := Tryz.f57) Tryz.results57 _ _ w.heap.size 51 Z (0, 0) _ rfl hrow Tryz.underlying51 rfl (by rw [hZs]; exact info_ip)) rfl ?_
              exact p4_errZ HZ.out HE.out (by decide) (below_setRow F.out.1 (Nat.le_refl _) _)
            · have d3 : ¬ (n : Int) < (N3 : Int) := by omega
              by_cases c4 : N3 < n
              · have d4 : (N3 : Int) < (n : Int) := by omega
                have hE : p4E l = 11 := by
                  rw [HE1.out, if_neg c3, if_pos c4]
                have HE := hide hE
                clear hE
                go_wp2
                have hrow := setRow_heap W w.heap.size Z Z _ _ R0
                refine bodyPost_ret (results_cell_tmp (fn := Tryz.f57) Tryz.results57 _ _ w.heap.size 51 Z (0, 0) _ rfl hrow Tryz.underlying51 rfl (by rw [hZs]; exact info_ip)) rfl ?_
                exact p4_errZ HZ.out HE.out (by decide) (below_setRow F.out.1 (Nat.le_refl _) _)
              · have d4 : ¬ (N3 : Int) < (n : Int) := by omega
                have HE2 : Hid (p4E l = if N8 ≠ headS (l.take (4 * q)) then 12 else if 32768 ≤ N5 then 11 else if N5 % 16384 ≠ 0 then 15 else 0) := hide (by rw [HE1.out, if_neg c3, if_neg c4])
                have hq4 : (4 * (q : Int)).toNat = 4 * q := by omega
                have d5 : 4 * (q : Int) ≤ (n : Int) := by omega
                have hby := HB0.out.below (HF.out.1.mono hB)
                obtain ⟨bb, off, rfl, hbB, -⟩ := HB0.out (by omega)
                have hlq : (l.take (4 * q)).length = 4 * q := by have := HL.out; rw [List.length_take]; omega
                have HS := headsum_any W bb off B c (l.take (4 * q)) (by omega) (by omega) (by omega) (hby.front (4 * q))
                rw [hlq] at HS
                have HSH := hide HS
                clear hby hlq HS
                go_wp2_with fail
                refine HSH.out.mono ?_
                rintro e w4 ⟨rfl, nd, rfl⟩
                generalize headS (l.take (4 * q)) = hs at HE2 ⊢
                have hF2 := HF.out.below (below_drewN (Below.refl _ W) nd)
                have hQ2 := HQ2.out.below (below_drewN (Below.refl _ W) nd)
                have hR2 : (W.drewN nd).heap[G]? = _ := HR.out
                have R02 : (W.drewN nd).heap[w.heap.size]? = some (.cells Z 51 (0, 0)) := R0
                generalize W.drewN nd = W2 at hF2 hQ2 hR2 R02 ⊢
                have F2 := hide hF2
                have Q2 := hide hQ2
                have RR2 := hide hR2
                clear hF2 hQ2 hR2 R0 hR0 HF HR HQ2 HSH
                by_cases c5 : N8 = hs
                · subst c5
                  have HE3 : Hid (p4E l = if 32768 ≤ N5 then 11 else if N5 % 16384 ≠ 0 then 15 else 0) := hide (by rw [HE2.out, if_neg (by simp)])
                  have a15 := and_hi (N := N5) (by omega)
                  by_cases c6 : 32768 ≤ N5
                  · have d6 : (bits BinOp.and IntKind.i64 (N5 : Int) 32768 != 0) = true := by rw [a15]; exact decide_eq_true c6
                    clear a15
                    have hE : p4E l = 11 := by
                      rw [HE3.out, if_pos c6]
                    have HE := hide hE
                    clear hE
                    go_wp2
                    have hrow := setRow_heap W2 w.heap.size Z Z _ _ R02
                    refine bodyPost_ret (results_cell_tmp (fn := Tryz.f57) Tryz.results57 _ _ w.heap.size 51 Z (0, 0) _ rfl hrow Tryz.underlying51 rfl (by rw [hZs]; exact info_ip)) rfl ?_
                    exact p4_errZ HZ.out HE.out (by decide) (below_setRow F2.out.1 (Nat.le_refl _) _)
                  · have d6 : (bits BinOp.and IntKind.i64 (N5 : Int) 32768 != 0) = false := by rw [a15]; exact decide_eq_false c6
                    have a14 := and_lo (N := N5) (by omega)
                    clear a15
                    by_cases c7 : N5 % 16384 = 0
                    · have d7 : (bits BinOp.and IntKind.i64 (N5 : Int) 16383 != 0) = false := by rw [a14, c7]; rfl
                      have HE : Hid (p4E l = 0) := hide (by rw [HE3.out, if_neg c6, if_neg (by omega)])
                      have hm1 : 4 * (q : Int) - 20 = ((4 * q - 20 : Nat) : Int) := by omega
                      have hdf' := and_df (N := N5) (by omega)
                      rw [hdf] at hdf'
                      have HDF := hide hdf'
                      have HC7 := hide c7
                      clear a14 c7 hdf'
                      go_wp2_with fail
                      refine (takeI W2 (4 * q - 20) Q2.out (.inl ⟨rfl, hk0, hl20⟩) (by rw [← HL.out]; exact HC.out) hnl.out).mono ?_
                      rintro e w4 ⟨O, ao, co, k4, r4, rfl, hbyO, hcO, hnO, hfO, hq4', hi4, hlO, hvO, hg4⟩
                      have hO := hvO (by have := HL.out; omega)
                      have hOl : O.length = 4 * q - 20 := by have := HL.out; rw [hO, List.length_take, List.length_drop]; omega
                      have hk4 : k4 = 4 * q ∧ r4 = 0 := by
                        have := HL.out
                        rcases hi4 with ⟨e1, e2, _⟩ | ⟨_, e2⟩
                        · exact ⟨by omega, e1⟩
                        · omega
                      obtain ⟨rfl, rfl⟩ := hk4
                      have hR4 : w4.heap[G]? = _ := (hg4.block G (Array.getElem?_eq_some_iff.1 RR2.out).1 (by intro e; cases e; have := HgG.out; omega)).trans RR2.out
                      have hF4 := F2.out.grown hg4 HG.out
                      have hV4 : IpV (ipL (sIp N7 N6 N2 N4 df (pad16 S) (pad16 D))).toArray (sIp N7 N6 N2 N4 df (pad16 S) (pad16 D)) := ⟨rfl, len_pad16 (by have := HSl.out; omega), len_pad16 (by have := HD4.out; omega)⟩
                      have k41 := (hV4.cells hR4).c41
                      have f41 := frozen_of_row w4 G 41 _ _ hR4
                      have hne4 : ∀ a, ao = some a → a.block ≠ G := fun a e => by have := hfO a e; have := (Array.getElem?_eq_some_iff.1 RR2.out).1; omega
                      have hR5 := heap_setCell_same w4 G 41 _ _ (.slice ao O.length co) hR4
                      rw [ip_set41 _ hV4.ls hV4.ld] at hR5
                      have hg45 := grown_set w4 G 41 (.slice ao O.length co)
                      have hF5 := hF4.grown hg45 (by have := HG.out; have := HgG.out; omega)
                      have hQ5 := hq4'.keep hg45 HgG.out
                      have hbO5 := hbyO.other (Nat.le_refl _) hg45 hne4
                      rw [hOl] at hR5 hF5 hQ5 hbO5
                      have HOl := hide hOl
                      have hsz5 : (w4.setCell ⟨G, 41, none⟩ (.slice ao (4 * q - 20) co)).heap.size = w4.heap.size := by simp
                      rw [hOl]
                      generalize hw5 : w4.setCell ⟨G, 41, none⟩ (.slice ao (4 * q - 20) co) = w5 at hR5 hF5 hQ5 hbO5 hsz5
                      have hLf := left_any w5 g A' l.length c' (4 * q) 0 hQ5.rd hnl.out (by have := HL.out; omega)
                      rw [← HL.out] at hLf
                      have HLf := hide hLf
                      have Q5 := hide hQ5
                      have F5 := hide hF5
                      have R5 := hide hR5
                      have BO5 := hide hbO5
                      have HnO := hide hnO
                      have HfO := hide hfO
                      have HO := hide hO
                      have HcO := hide hcO
                      have HO2 : Hid (∀ a, ao = some a → a.block < w4.heap.size ∨ True) := hide (fun a e => .inr trivial)
                      have Hne4 := hide hne4
                      have Hsz5 := hide hsz5
                      have HG4 : Hid (W2.heap.size ≤ w4.heap.size) := hide hg4.size
                      clear hbyO hcO hnO hfO hq4' hi4 hlO hvO hg4 hO hOl hR4 hF4 hV4 hne4 hR5 hg45 hF5 hQ5 hbO5 hLf HO2 hsz5
                      go_wp2_with fail
                      refine HLf.out.mono ?_
                      rintro e w6 ⟨rfl, ndd, rfl⟩
                      have hm2 : (n : Int) - 4 * (q : Int) = ((n - 4 * q : Nat) : Int) := by omega
                      clear hw5 k41 f41
                      have q6 := Q5.out.below (below_drewN (Below.refl _ w5) ndd)
                      have f6 := F5.out.below (below_drewN (Below.refl _ w5) ndd)
                      have r6 : (w5.drewN ndd).heap[G]? = _ := R5.out
                      have bo6 := BO5.out.drewN ndd
                      have sz6 : (w5.drewN ndd).heap.size = w4.heap.size := Hsz5.out
                      generalize w5.drewN ndd = w6 at q6 f6 r6 bo6 sz6 ⊢
                      have Q6 := hide q6
                      have F6 := hide f6
                      have R6 := hide r6
                      have BO6 := hide bo6
                      have S6 := hide sz6
                      clear q6 f6 r6 bo6 sz6 Q5 F5 R5 BO5 HLf
                      go_wp2_with fail
                      clear hm2
                      have i6 : RdI l (4 * q) (4 * q) 0 := .inl ⟨rfl, rfl, by have := HL.out; omega⟩
                      have t6 := takeI w6 (n - 4 * q) Q6.out i6 (by rw [← HL.out]; exact HC.out) hnl.out
                      (with_reducible refine t6.mono ?_)
                      clear t6 i6
                      rintro e w7 ⟨Dt, ad, cd, k7, r7, rfl, hbyD, hcD, hnD, hfD, hq7, hi7, hlD, hvD, hg7⟩
                      have hD := hvD (by have := HL.out; omega)
                      have hDl : Dt.length = n - 4 * q := by have := HL.out; rw [hD, List.length_take, List.length_drop]; omega
                      have hR7 : w7.heap[G]? = _ := (hg7.block G (Array.getElem?_eq_some_iff.1 R6.out).1 (by intro e; cases e; have := HgG.out; omega)).trans R6.out
                      have hF7 := F6.out.grown hg7 HG.out
                      have hGw6 := (Array.getElem?_eq_some_iff.1 R6.out).1
                      have hgG2 := HgG.out
                      have hV7 : IpV (ipL { sIp N7 N6 N2 N4 df (pad16 S) (pad16 D) with ao := ao, no := 4 * q - 20, co := co }).toArray { sIp N7 N6 N2 N4 df (pad16 S) (pad16 D) with ao := ao, no := 4 * q - 20, co := co } := ⟨rfl, len_pad16 (by have := HSl.out; omega), len_pad16 (by have := HD4.out; omega)⟩
                      have k42 := (hV7.cells hR7).c42
                      have f42 := frozen_of_row w7 G 42 _ _ hR7
                      have hne7 : ∀ a, ad = some a → a.block ≠ G := fun a e => by have := hfD a e; omega
                      have hR8 := heap_setCell_same w7 G 42 _ _ (.slice ad Dt.length cd) hR7
                      rw [ip_set42 _ hV7.ls hV7.ld] at hR8
                      have hg78 := grown_set w7 G 42 (.slice ad Dt.length cd)
                      have hF8 := hF7.grown hg78 (by have := HG.out; omega)
                      have hbD8 := hbyD.other (Nat.le_refl _) hg78 hne7
                      have hbO7 := BO6.out.other (Nat.le_of_eq S6.out.symm) hg7 (fun a e => by have := HfO.out a e; have := Q2.out.rd.lt; omega)
                      have hbO8 := hbO7.other (by have := hg7.size; have := S6.out; omega) hg78 Hne4.out
                      rw [hDl] at hR8 hF8 hbD8 hbO8
                      have HDl := hide hDl
                      have hsz8 : (w7.setCell ⟨G, 42, none⟩ (.slice ad (n - 4 * q) cd)).heap.size = w7.heap.size := by simp
                      rw [hDl]
                      have hfin : Ip := { sIp N7 N6 N2 N4 df (pad16 S) (pad16 D) with ao := ao, no := 4 * q - 20, co := co, ad := ad, nd := n - 4 * q, cd := cd }
                      obtain ⟨X8, hX8⟩ : ∃ X, X = (ipL { sIp N7 N6 N2 N4 df (pad16 S) (pad16 D) with ao := ao, no := 4 * q - 20, co := co, ad := ad, nd := n - 4 * q, cd := cd }).toArray := ⟨_, rfl⟩
                      have hV8 : IpV X8 { sIp N7 N6 N2 N4 df (pad16 S) (pad16 D) with ao := ao, no := 4 * q - 20, co := co, ad := ad, nd := n - 4 * q, cd := cd } := ⟨hX8, hV7.ls, hV7.ld⟩
                      have hR8' : (w7.setCell ⟨G, 42, none⟩ (.slice ad (n - 4 * q) cd)).heap[G]? = some (.cells X8 51 (0, 0)) := by rw [hX8]; exact hR8
                      have hR08 : (w7.setCell ⟨G, 42, none⟩ (.slice ad (n - 4 * q) cd)).heap[w.heap.size]? = some (.cells Z 51 (0, 0)) := by rw [HZ.out]; exact hF8.2
                      have hX8s : X8.size = 43 := hV8.size
                      have hX8o : allOne X8 = true := hV8.one
                      have hX80 : X8.extract 0 43 = X8 := hV8.x0
                      generalize hw8 : w7.setCell ⟨G, 42, none⟩ (.slice ad (n - 4 * q) cd) = w8 at hF8 hbD8 hbO8 hsz8 hR8' hR08
                      have F8 := hide hF8
                      have BD8 := hide hbD8
                      have BO8 := hide hbO8
                      have S8 := hide hsz8
                      have V8' := hide hV8
                      have HnD := hide hnD
                      have HfD := hide hfD
                      have HD := hide hD
                      have HcD := hide hcD
                      have HGw6 := hide hGw6
                      have HG7 := hide hg7.size
                      clear hbyD hcD hnD hfD hq7 hi7 hlD hvD hg7 hD hDl hR7 hF7 hV7 hne7 hR8 hg78 hF8 hbD8 hbO8 hsz8 hV8 hX8 hfin hbO7 hGw6 hgG2
                      go_wp2_with fail
                      have hrow := setRow_heap w8 w.heap.size Z X8 _ _ hR08
                      refine bodyPost_ret (results_cell_tmp (fn := Tryz.f57) Tryz.results57 _ _ w.heap.size 51 X8 (0, 0) _ rfl hrow Tryz.underlying51 rfl (by rw [hX8s]; exact info_ip)) rfl ?_
                      have hgs := setRow_grown w8 w.heap.size X8
                      have hzs : (w8.setRow w.heap.size X8).heap.size = w8.heap.size := size_setRow _ _ _
                      have g1 := HG.out
                      have g2 := Q2.out.rd.lt
                      have g3 := HG4.out
                      have g4 := HG7.out
                      have g5 := S6.out
                      have g6 := S8.out
                      have n20 : 20 ≤ l.length := hl20
                      have e2 : N2 = nmB l 1 1 := V2.out (by omega)
                      have e4 : N4 = nmB l 4 2 := V4.out (by omega)
                      have e6 : N6 = nmB l 8 1 := V6.out (by omega)
                      have e7 : N7 = nmB l 9 1 := V7.out (by omega)
                      have eS := HSv.out (by omega)
                      have eD := HDv.out (by omega)
                      have hH : ({ sIp N7 N6 N2 N4 df (pad16 S) (pad16 D) with ao := ao, no := 4 * q - 20, co := co, ad := ad, nd := n - 4 * q, cd := cd } : Ip) = p4H l ao co ad cd := by
                        unfold p4H
                        rw [← HN1.out, ← e2, ← e4, ← e6, ← e7, ← HN5.out, ← eS, ← eD, ← HDF.out, ← HL.out]
                        rfl
                      refine ⟨X8, by rw [HE.out]; rfl, below_setRow F8.out.1 (Nat.le_refl _) _, fun h => absurd HE.out h, fun _ => ⟨ao, co, ad, cd, by rw [← hH]; exact V8'.out, ?_, ?_⟩⟩
                      · rw [← HN1.out, ← HO.out]
                        exact ⟨(BO8.out.other (by omega) hgs (fun a e => by have := HfO.out a e; omega)).more (by omega), HcO.out, HnO.out, fun a e => by have := HfO.out a e; omega⟩
                      · have eL : l.drop (4 * (nmB l 0 1 % 16)) = Dt := by
                          rw [← HN1.out, HD.out, List.take_of_length_le (by have := HL.out; rw [List.length_drop]; omega)]
                        rw [eL]
                        exact ⟨(BD8.out.other (by omega) hgs (fun a e => by have := HfD.out a e; omega)).more (by omega), HcD.out, HnD.out, fun a e => by have := HfD.out a e; omega⟩
                    · have d7 : (bits BinOp.and IntKind.i64 (N5 : Int) 16383 != 0) = true := by rw [a14]; exact decide_eq_true c7
                      clear a14
                      have hE : p4E l = 15 := by
                        rw [HE3.out, if_neg c6, if_pos c7]
                      have HE := hide hE
                      clear hE
                      go_wp2
                      have hrow := setRow_heap W2 w.heap.size Z Z _ _ R02
                      refine bodyPost_ret (results_cell_tmp (fn := Tryz.f57) Tryz.results57 _ _ w.heap.size 51 Z (0, 0) _ rfl hrow Tryz.underlying51 rfl (by rw [hZs]; exact info_ip)) rfl ?_
                      exact p4_errZ HZ.out HE.out (by decide) (below_setRow F2.out.1 (Nat.le_refl _) _)
                · have d5' : ((N8 : Int) != (hs : Int)) = true := by
                    have : ¬ ((N8 : Int) = (hs : Int)) := by omega
                    simp [this]
                  have hE : p4E l = 12 := by
                    rw [HE2.out, if_pos c5]
                  have HE := hide hE
                  clear hE
                  go_wp2
                  have hrow := setRow_heap W2 w.heap.size Z Z _ _ R02
                  refine bodyPost_ret (results_cell_tmp (fn := Tryz.f57) Tryz.results57 _ _ w.heap.size 51 Z (0, 0) _ rfl hrow Tryz.underlying51 rfl (by rw [hZs]; exact info_ip)) rfl ?_
                  exact p4_errZ HZ.out HE.out (by decide) (below_setRow F2.out.1 (Nat.le_refl _) _)
      · subst hr0
        go_wp2_with fail
        refine HEr.out.mono ?_
        rintro e w3 ⟨rfl, rfl⟩
        have R0 := hR0
        have hE : p4E l = 10 := by
          unfold p4E; rw [if_pos (by omega)]
        have HE := hide hE
        clear hE
        go_wp2
        have hrow := setRow_heap W w.heap.size Z Z _ _ R0
        refine bodyPost_ret (results_cell_tmp (fn := Tryz.f57) Tryz.results57 _ _ w.heap.size 51 Z (0, 0) _ rfl hrow Tryz.underlying51 rfl (by rw [hZs]; exact info_ip)) rfl ?_
        exact p4_errZ HZ.out HE.out (by decide) (below_setRow F.out.1 (Nat.le_refl _) _)
end Go.Proofs.YtihakjcccbionaaGreatDoor
