import Derived.Test.YtdlilokmfekndaaMih
import Derived.Test.YtdlilokmfekndaaMad
import Derived.Deep.RegionHeld3
section
/-
  The walk of header.putFour.
-/
namespace Go.Proofs.Ytdlilokmfekndaa
open Go.RowKit
set_option maxRecDepth 100000
set_option linter.unusedVariables false
set_option linter.unusedSimpArgs false

/-- the numbers of a head of four, but for its sum. -/
def fourF (h : Ip) (n : Nat) : List (Nat × Nat) := [(1, 64 + n / 4), (1, h.tos.toNat), (2, n + h.nd), (2, h.id.toNat), (2, if h.df then 16384 else 0), (1, h.ttl.toNat), (1, h.p.toNat)]
def four1 (h : Ip) (B O : List UInt8) (n : Nat) : List UInt8 := splice (splice (splice (splice B 0 (fldB (fourF h n))) 12 (h.sb.take 4)) 16 (h.db.take 4)) 20 O
/-- what putFour makes of the bytes of a row, of which the first n are the head. -/
def fourB (h : Ip) (B O : List UInt8) (n : Nat) : List UInt8 := splice (four1 h B O n) 10 (numBytes (headS ((four1 h B O n).take n)) 2 2)

theorem Byt.front {w : World} {B : Nat} {A : Option Addr} {l : List UInt8} (h : Byt w B A l) (k : Nat) : Byt w B A (l.take k) := fun hp => by
  obtain ⟨b, off, e, hB, hc⟩ := h (by simp at hp; omega)
  exact ⟨b, off, e, hB, fun i hi => by rw [hc i (by simp at hi; omega)]; simp⟩
theorem or64 : ∀ {q : Nat}, q < 64 → bits BinOp.or IntKind.i64 64 (q : Int) = 64 + (q : Int) := by decide
theorem heap_size_alloc' (w : World) (o : Obj) : (w.alloc o).heap.size = w.heap.size + 1 := by simp
end Go.Proofs.Ytdlilokmfekndaa

end
section
/-
  The walk of header.putSix.
-/
namespace Go.Proofs.Ytdlilokmfekndaa
open Go.RowKit
set_option maxRecDepth 100000
set_option linter.unusedVariables false
set_option linter.unusedSimpArgs false

/-- the numbers of a head of six. -/
def sixF (h : Ip) : List (Nat × Nat) := [(4, 1610612736 + h.tos.toNat * 1048576 + h.lab.toNat), (2, h.nd), (1, h.p.toNat), (1, h.ttl.toNat)]
/-- what putSix makes of the bytes of a row. -/
def sixB (h : Ip) (B : List UInt8) : List UInt8 := splice (splice (splice B 0 (fldB (sixF h))) 8 h.sb) 24 h.db

theorem bits_or_i64_nat (a b : Nat) (ha : a < 4294967296) (hb : b < 4294967296) : bits .or .i64 (a : Int) (b : Int) = ((a ||| b : Nat) : Int) := by
  have hx : a ||| b < 2 ^ 32 := Nat.or_lt_two_pow (by omega) (by omega)
  have h1 : (BitVec.ofInt 64 (a : Int)).toNat = a := by
    rw [BitVec.ofInt_natCast, BitVec.toNat_ofNat]; exact Nat.mod_eq_of_lt (by omega)
  have h2 : (BitVec.ofInt 64 (b : Int)).toNat = b := by
    rw [BitVec.ofInt_natCast, BitVec.toNat_ofNat]; exact Nat.mod_eq_of_lt (by omega)
  show IntKind.i64.wrap ((BitVec.ofInt 64 (a : Int) ||| BitVec.ofInt 64 (b : Int)).toNat : Int) = _
  rw [BitVec.toNat_or, h1, h2]
  exact IntWalk.i64_in _ (by omega)
theorem or_first {tos lab : Nat} (ht : tos ≤ 255) (hl : lab ≤ 1048575) : bits .or .i64 (bits .or .i64 1610612736 ((tos : Int) * 1048576)) (lab : Int) = 1610612736 + (tos : Int) * 1048576 + (lab : Int) := by
  have e1 : (1610612736 ||| tos * 1048576) = 1610612736 + tos * 1048576 := by
    have := Nat.two_pow_add_eq_or_of_lt (i := 28) (b := tos * 1048576) (by omega) 6
    simpa using this.symm
  have e2 : ((1610612736 + tos * 1048576) ||| lab) = 1610612736 + tos * 1048576 + lab := by
    have := Nat.two_pow_add_eq_or_of_lt (i := 20) (b := lab) (by omega) (1536 + tos)
    rw [show 2 ^ 20 * (1536 + tos) = 1610612736 + tos * 1048576 by omega] at this
    exact this.symm
  have a1 := bits_or_i64_nat 1610612736 (tos * 1048576) (by omega) (by omega)
  rw [e1] at a1
  have a2 := bits_or_i64_nat (1610612736 + tos * 1048576) lab (by omega) (by omega)
  rw [e2] at a2
  have c1 : (((1610612736 : Nat)) : Int) = 1610612736 := rfl
  have c2 : ((tos * 1048576 : Nat) : Int) = (tos : Int) * 1048576 := by omega
  rw [c1, c2] at a1
  rw [a1, a2]
  omega
end Go.Proofs.Ytdlilokmfekndaa

end
section
/-
  The walk of header.Put.
-/
namespace Go.Proofs.Ytdlilokmfekndaa
open Go.RowKit
attribute [local go_sem ↓] exec_span exec_put exec_build heap_alloc_new heap_old
attribute [local go_sem] spanQ_ptr spanC_some heap_of_drew heap_of_drewN rs_arr rs_ad rs_ip rs_rip putAt_ptr putOk_ptr oldOk_some built_none World.setRow_alloc_new
set_option maxRecDepth 100000
set_option linter.unusedVariables false
set_option linter.unusedSimpArgs false

/-- how long its head is, as a number of bytes. -/
def sizeN (h : Ip) : Nat := if h.v then 40 else 20 + h.no
theorem sizeH_nat (h : Ip) : sizeH h = (sizeN h : Int) := by unfold sizeH sizeN; split <;> simp
def zerB (n : Nat) : List UInt8 := List.replicate n 0
/-- the error of Put, and its bytes. -/
def pktE (h : Ip) : Int := if rightH h = true then (if 65535 < sizeN h + h.nd then 3 else 0) else 1
def pktB (h : Ip) (O D : List UInt8) : List UInt8 :=
  if pktE h = 0 then splice (if h.v then sixB h (zerB (sizeN h + h.nd)) else fourB h (zerB (sizeN h + h.nd)) O (sizeN h)) (sizeN h) D else []
theorem right_facts {h : Ip} (hr : rightH h = true) : (0 ≤ h.p ∧ h.p ≤ 255) ∧ (0 ≤ h.ttl ∧ h.ttl ≤ 255) ∧ (0 ≤ h.tos ∧ h.tos ≤ 255) ∧ (h.v = true → 0 ≤ h.lab ∧ h.lab ≤ 1048575) ∧ (h.v = false → (0 ≤ h.id ∧ h.id ≤ 65535) ∧ h.no ≤ 40 ∧ h.no % 4 = 0) := by
  unfold rightH upS at hr
  cases hv : h.v <;> simp [hv] at hr <;> simp <;> omega
theorem zerB_made (n : Nat) : madeCells #[.int .u8 0] n = ((zerB n).map byteV).toArray := by
  apply Array.toList_inj.1
  rw [toList_madeCells_one, zerB, List.map_replicate]; rfl

theorem length_sixB {h : Ip} {B : List UInt8} (ls : h.sb.length = 16) (ld : h.db.length = 16) (hB : 40 ≤ B.length) : (sixB h B).length = B.length := by
  have hF : (fldB (sixF h)).length = 8 := by unfold sixF; simp [fldB, length_numBytes]
  unfold sixB
  have e1 : (splice B 0 (fldB (sixF h))).length = B.length := length_splice _ _ _ (by omega)
  have e2 : (splice (splice B 0 (fldB (sixF h))) 8 h.sb).length = B.length := by rw [length_splice _ _ _ (by omega), e1]
  rw [length_splice _ _ _ (by omega), e2]
theorem length_four1 {h : Ip} {B O : List UInt8} {n : Nat} (ls : h.sb.length = 16) (ld : h.db.length = 16) (hB : 20 + O.length ≤ B.length) : (four1 h B O n).length = B.length := by
  have hF : (fldB (fourF h n)).length = 10 := by unfold fourF; simp [fldB, length_numBytes]
  have h4 : (h.sb.take 4).length = 4 := by simp [ls]
  have h5 : (h.db.take 4).length = 4 := by simp [ld]
  unfold four1
  have e1 : (splice B 0 (fldB (fourF h n))).length = B.length := length_splice _ _ _ (by omega)
  have e2 : (splice (splice B 0 (fldB (fourF h n))) 12 (h.sb.take 4)).length = B.length := by rw [length_splice _ _ _ (by omega), e1]
  have e3 : (splice (splice (splice B 0 (fldB (fourF h n))) 12 (h.sb.take 4)) 16 (h.db.take 4)).length = B.length := by rw [length_splice _ _ _ (by omega), e2]
  rw [length_splice _ _ _ (by omega), e3]
theorem length_fourB {h : Ip} {B O : List UInt8} {n : Nat} (ls : h.sb.length = 16) (ld : h.db.length = 16) (hB : 20 + O.length ≤ B.length) : (fourB h B O n).length = B.length := by
  have e := length_four1 (n := n) ls ld hB
  unfold fourB
  rw [length_splice _ _ _ (by rw [length_numBytes]; omega), e]

end Go.Proofs.Ytdlilokmfekndaa

end
