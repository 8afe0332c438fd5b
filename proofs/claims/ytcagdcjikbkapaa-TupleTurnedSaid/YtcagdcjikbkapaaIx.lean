/-
  The walk of header.putSix.
-/
import Derived.Test.YtcagdcjikbkapaaIf
namespace Go.Proofs.Ytcagdcjikbkapaa
open Go.RowKit
set_option maxRecDepth 100000
set_option linter.unusedVariables false
set_option linter.unusedSimpArgs false

/-- the numbers of a head of six. -/
def sixF (h : Ip) : List (Nat × Nat) := [(4, 1610612736 + h.tos.toNat * 1048576 + h.lab.toNat), (2, h.nd), (1, h.p.toNat), (1, h.ttl.toNat)]
/-- what putSix makes of the bytes of a row. -/
def sixB (h : Ip) (B : List UInt8) : List UInt8 := splice (splice (splice B 0 (fldB (sixF h))) 8 h.sb) 24 h.db

theorem bits_or_i64_nat (a b : Nat) (ha : a < 4294967296) (hb : b < 4294967296) : bits .or .i64 (a : Int) (b : Int) = ((a ||| b : Nat) : Int) := by
  have hx : a ||| b < 2 ^ 32 := Nat.or_lt_two_pow (by omega) (by omega)
  have h1 : (BitVec.ofInt 64 (a : Int)).toNat = a := by
    rw [BitVec.ofInt_natCast, BitVec.toNat_ofNat]; exact Nat.mod_eq_of_lt (by omega)
  have h2 : (BitVec.ofInt 64 (b : Int)).toNat = b := by
    rw [BitVec.ofInt_natCast, BitVec.toNat_ofNat]; exact Nat.mod_eq_of_lt (by omega)
  show IntKind.i64.wrap ((BitVec.ofInt 64 (a : Int) ||| BitVec.ofInt 64 (b : Int)).toNat : Int) = _
  rw [BitVec.toNat_or, h1, h2]
  exact IntWalk.i64_in _ (by omega)
theorem or_first {tos lab : Nat} (ht : tos ≤ 255) (hl : lab ≤ 1048575) : bits .or .i64 (bits .or .i64 1610612736 ((tos : Int) * 1048576)) (lab : Int) = 1610612736 + (tos : Int) * 1048576 + (lab : Int) := by
  have e1 : (1610612736 ||| tos * 1048576) = 1610612736 + tos * 1048576 := by
    have := Nat.two_pow_add_eq_or_of_lt (i := 28) (b := tos * 1048576) (by omega) 6
    simpa using this.symm
  have e2 : ((1610612736 + tos * 1048576) ||| lab) = 1610612736 + tos * 1048576 + lab := by
    have := Nat.two_pow_add_eq_or_of_lt (i := 20) (b := lab) (by omega) (1536 + tos)
    rw [show 2 ^ 20 * (1536 + tos) = 1610612736 + tos * 1048576 by omega] at this
    exact this.symm
  have a1 := bits_or_i64_nat 1610612736 (tos * 1048576) (by omega) (by omega)
  rw [e1] at a1
  have a2 := bits_or_i64_nat (1610612736 + tos * 1048576) lab (by omega) (by omega)
  rw [e2] at a2
  have c1 : (((1610612736 : Nat)) : Int) = 1610612736 := rfl
  have c2 : ((tos * 1048576 : Nat) : Int) = (tos : Int) * 1048576 := by omega
  rw [c1, c2] at a1
  rw [a1, a2]
  omega
set_option maxHeartbeats 4000000 in
theorem putsix_any (w : World) (g c : Nat) (ty : TypeId) (X : Array Value) (h : Ip) (x : IpV X h) (B : List UInt8) (hg : w.heap[g]? = some (.cells (B.map byteV).toArray ty (0, 0))) (hnB : 40 ≤ B.length) (hnc : 40 ≤ c)
    (ht : 0 ≤ h.tos ∧ h.tos ≤ 255) (hp : 0 ≤ h.p ∧ h.p ≤ 255) (htl : 0 ≤ h.ttl ∧ h.ttl ≤ 255) (hlb : 0 ≤ h.lab ∧ h.lab ≤ 1048575) (hs : h.nd ≤ 65535) :
    Calls Try.prog 77 #[.slice (some ⟨g, 0, none⟩) 40 c, .agg X] w fun e w' => e = .returned (.tuple #[]) ∧ w'.heap[g]? = some (.cells ((sixB h B).map byteV).toArray ty (0, 0)) ∧ w.grownBy w' (some g) := by
  obtain ⟨W, hW, h1, hz, hb⟩ := one_block w (.cells X 36)
  have hc := x.cells h1
  obtain ⟨tos, htos⟩ : ∃ k : Nat, h.tos = (k : Int) := ⟨h.tos.toNat, by omega⟩
  obtain ⟨p, hpp⟩ : ∃ k : Nat, h.p = (k : Int) := ⟨h.p.toNat, by omega⟩
  obtain ⟨ttl, httl⟩ : ∃ k : Nat, h.ttl = (k : Int) := ⟨h.ttl.toNat, by omega⟩
  obtain ⟨lab, hlab⟩ : ∃ k : Nat, h.lab = (k : Int) := ⟨h.lab.toNat, by omega⟩
  obtain ⟨nd, hnd⟩ : ∃ k : Nat, k = h.nd := ⟨_, rfl⟩
  have hF : sixF h = [(4, 1610612736 + tos * 1048576 + lab), (2, nd), (1, p), (1, ttl)] := by
    unfold sixF
    rw [htos, hpp, httl, hlab, hnd]; simp
  have c5 := hc.c37
  have c10' := hc.c42
  have c8 := hc.c40
  have c4 := hc.c36
  have c3 := hc.c35
  rw [htos] at c5 ht
  rw [hpp] at c3 hp
  rw [httl] at c4 htl
  rw [hlab] at c8 hlb
  rw [← hnd] at c10' hs
  have hF8 : fldOk (sixF h) := by
    rw [hF]
    intro f hf
    simp at hf
    rcases hf with rfl | rfl | rfl | rfl <;> exact ⟨by simp, by simp, by simp; omega, by simp; omega⟩
  have hor := or_first (tos := tos) (lab := lab) (by omega) (by omega)
  obtain ⟨N, hN⟩ : ∃ N : Int, 1610612736 + (tos : Int) * 1048576 + (lab : Int) = N := ⟨_, rfl⟩
  have hNN : N = ((1610612736 + tos * 1048576 + lab : Nat) : Int) := by omega
  rw [hN] at hor
  obtain ⟨S, hS⟩ : ∃ S, S = h.sb := ⟨_, rfl⟩
  obtain ⟨D, hD⟩ : ∃ D, D = h.db := ⟨_, rfl⟩
  obtain ⟨F, hFl⟩ : ∃ F, F = fldB (sixF h) := ⟨_, rfl⟩
  have hFn : F.length = 8 := by rw [hFl, hF]; simp [fldB, length_numBytes]
  have hR : sixB h B = splice (splice (splice B 0 F) 8 S) 24 D := by
    unfold sixB; rw [hS, hD, hFl]
  have HLAY := hide (fun (W : World) => layH_any (W.alloc (.cells #[.int .i64 4, .int .i64 N, .int .i64 2, .int .i64 (nd : Int), .int .i64 1, .int .i64 (p : Int), .int .i64 1, .int .i64 (ttl : Int)] 150)) (some ⟨W.heap.size, 0, none⟩) 4 (sixF h)
    (by rw [heap_size_alloc']; exact Ops.lit W _ _ _ _ (by rw [hF, hNN]; simp [fldF])) hF8 (by rw [hF]; simp))
  rw [← hFl, hFn, show (sixF h).length = 4 by rw [hF]; rfl] at HLAY
  have s4 : S.length = 16 := by rw [hS, x.ls]
  have d4 : D.length = 16 := by rw [hD, x.ld]
  have hB := hide hb
  have hZ := hide hz
  have hG := hide hg
  have H1 := hide h1
  have HR := hide hR
  have HS := hide hS
  have HD := hide hD
  have S4 := hide s4
  have D4 := hide d4
  have F10 := hide hFn
  clear hF hF8 hnd htos hpp httl hlab hR hS hD s4 d4 hFn hFl hN hNN
  have hgw : g < w.heap.size := (Array.getElem?_eq_some_iff.1 hG.out).1
  have HGW := hide hgw
  have hbl : Hid (40 ≤ B.length) := hide hnB
  have HBS := hide (fun (w' : World) (h' : w'.heap[w.heap.size]? = some (.cells X 36 (0, 0))) => And.intro (x.bytS (B := w.heap.size + 1) h' (by omega)) (x.bytD (B := w.heap.size + 1) h' (by omega)))
  rw [← HS.out, ← HD.out] at HBS
  have e8 : ¬ c = 8 := by omega
  have e24 : ¬ c = 24 := by omega
  clear hz hb hc hg h1 hgw hnB
  go_enter Try.func77, Try.ntmps77
  go_wp2_with fail
  refine (HLAY.out _).mono ?_
  rintro _ w2 ⟨A2, c2, rfl, ho2, hb2⟩
  have k2 : Below W.heap.size W w2 := ((Below.refl _ W).alloc (Nat.le_refl _) _).trans (hb2.mono (by simp))
  have B2 : Below w.heap.size w w2 := hB.out.trans (k2.mono hB.out.size)
  have hX2 := row_kept k2 (by have := hZ.out; omega) H1.out
  have hg2 := (B2.block g HGW.out).trans hG.out
  have by2 : Byt w2 w2.heap.size A2 F := by
    obtain ⟨A', c', e, _, hb, _⟩ := ho2.shape
    injection e with e1 e2 e3
    subst e1
    exact hb
  have G2 := hide hg2
  have Y2 := hide by2
  have X2 := hide hX2
  have R2 := hide (Below.row B2 (some g))
  clear k2 B2 hX2 hg2 by2 ho2 hb2 c3 c4 c5 c8 c10'
  have l1 : 8 ≤ 40 := by omega
  have l2 : 0 + 8 ≤ B.length := by have := hbl.out; omega
  dsimp only
  go_wp2_with (with_reducible refine wpList_copy_bytes rfl (.tmp 4) (.tmp 24) rfl g 0 40 c A2 8 c2 B F w2.heap.size ty rfl rfl F10.out G2.out Y2.out l1 l2 ?_)
  intro w3 hg3 hgr3
  have R3 := hide (grown_trans R2.out hgr3)
  have XL : Hid (w.heap.size < w3.heap.size) := hide (by have := hgr3.size; have := (Array.getElem?_eq_some_iff.1 X2.out).1; omega)
  have X3 := hide ((hgr3.block w.heap.size (by have := R2.out.size; have := (Array.getElem?_eq_some_iff.1 X2.out).1; omega) (by have := HGW.out; simp; omega)).trans X2.out)
  have G3 := hide hg3
  clear hg3 hgr3
  obtain ⟨B1, hB1⟩ : ∃ B', B' = splice B 0 F := ⟨_, rfl⟩
  rw [← hB1] at G3
  have L1 : Hid (B1.length = B.length) := hide (by rw [hB1, length_splice _ _ _ (by rw [F10.out]; have := hbl.out; omega)])
  rw [← hB1] at HR
  clear hB1
  go_wp2
  go_region_law (refine step_copy_bytes rfl (.tmp 27) (.tmp 30) rfl g 8 (some ⟨g, 8, none⟩) 32 (c - 8) (some ⟨w.heap.size, 2, none⟩) 16 16 B1 S (w.heap.size + 1) ty (by rfl) (fun _ => rfl) (by rfl) S4.out G3.out (HBS.out w3 X3.out).1 (by omega) (by rw [L1.out]; have := hbl.out; omega) ?_; intro w4 hg4 hgr4)
  have R4 := hide (grown_trans R3.out (⟨hgr4.os, hgr4.tape, hgr4.output, hgr4.size, hgr4.block⟩ : w3.grownBy w4 (some g)))
  have X4 := hide ((hgr4.block w.heap.size XL.out (by have := HGW.out; simp; omega)).trans X3.out)
  have G4 := hide hg4
  obtain ⟨B2, hB2⟩ : ∃ B', B' = splice B1 8 S := ⟨_, rfl⟩
  rw [← hB2] at G4
  have L2 : Hid (B2.length = B.length) := hide (by rw [hB2, length_splice _ _ _ (by rw [S4.out, L1.out]; have := hbl.out; omega), L1.out])
  rw [← hB2] at HR
  clear hB2 hg4 hgr4
  go_wp2
  go_region_law (refine step_copy_bytes rfl (.tmp 33) (.tmp 36) rfl g 24 (some ⟨g, 24, none⟩) 16 (c - 24) (some ⟨w.heap.size, 19, none⟩) 16 16 B2 D (w.heap.size + 1) ty (by rfl) (fun _ => rfl) (by rfl) D4.out G4.out (HBS.out w4 X4.out).2 (by omega) (by rw [L2.out]; have := hbl.out; omega) ?_; intro w5 hg5 hgr5)
  have R5 := hide (grown_trans R4.out (⟨hgr5.os, hgr5.tape, hgr5.output, hgr5.size, hgr5.block⟩ : w4.grownBy w5 (some g)))
  have hfin : w5.heap[g]? = some (.cells ((sixB h B).map byteV).toArray ty (0, 0)) := by rw [HR.out]; exact hg5
  have H9 := hide hfin
  clear hfin hg5 hgr5
  go_wp2
  go_end0
  exact ⟨rfl, H9.out, R5.out⟩
end Go.Proofs.Ytcagdcjikbkapaa
