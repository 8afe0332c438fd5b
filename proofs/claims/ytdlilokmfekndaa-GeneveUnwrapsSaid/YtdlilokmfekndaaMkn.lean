import Derived.Test.YtdlilokmfekndaaKi
section
/-
  The walk of segment.Put: of TCP, of a datagram, without a sum, refused.
-/
namespace Go.Proofs.Ytdlilokmfekndaa
open Go.RowKit
attribute [local go_sem ↓] exec_span exec_put exec_build heap_alloc_new heap_old
attribute [local go_sem] spanQ_ptr spanC_some heap_of_drew heap_of_drewN rs_arr rs_ad rs_ip rs_rip rs_seg putAt_ptr putOk_ptr oldOk_some World.setRow_alloc_new
set_option maxRecDepth 100000
set_option linter.unusedVariables false
set_option linter.unusedSimpArgs false

/-- how many bytes a segment's head has; its numbers as bytes; where its sum stands. -/
def hdN (s : Sg) : Nat := if s.p = 6 then 20 + s.no else 8
def hdB (s : Sg) : List UInt8 := if s.p = 6 then fldB (tcpF s.a.toNat s.b.toNat s.q s.k s.no s.f.toNat s.wn.toNat s.u.toNat) else fldB [(2, s.a.toNat), (2, s.b.toNat), (2, 8 + s.nd), (2, 0)]
def atS (p : Int) : Nat := if p = 6 then 16 else 6
/-- what is wrong with a segment; its bytes ahead of its sum; its bytes. -/
def putE (h : Ip) (s : Sg) : Int := if (h.p = 6 ∨ h.p = 17) ∧ s.p = h.p then (if rightS s = true ∧ (s.ns && h.v) = false then (if 65535 < hdN s + s.nd then 3 else 0) else 1) else 14
def seg0 (s : Sg) (O D : List UInt8) : List UInt8 := hdB s ++ O ++ D
def segB (h : Ip) (s : Sg) (O D : List UInt8) : List UInt8 :=
  if s.ns then seg0 s O D else ((seg0 s O D).set (atS h.p) (b8 (((sumV h (seg0 s O D) (atS h.p) : Nat) : Int) / 256))).set (atS h.p + 1) (b8 ((sumV h (seg0 s O D) (atS h.p) : Nat) : Int))
theorem rightS_facts {s : Sg} (hr : rightS s = true) : (0 ≤ s.a ∧ s.a ≤ 65535) ∧ (0 ≤ s.b ∧ s.b ≤ 65535) ∧ (s.p = 6 → (0 ≤ s.f ∧ s.f ≤ 255) ∧ (0 ≤ s.wn ∧ s.wn ≤ 65535) ∧ (0 ≤ s.u ∧ s.u ≤ 65535) ∧ s.no ≤ 40 ∧ s.no % 4 = 0 ∧ s.ns = false) ∧ (s.p ≠ 6 → s.q = 0 ∧ s.k = 0 ∧ s.f = 0 ∧ s.wn = 0 ∧ s.u = 0 ∧ s.no = 0) := by
  unfold rightS upL at hr
  by_cases h6 : s.p = 6
  · rw [if_pos h6] at hr
    simp at hr
    refine ⟨by omega, by omega, fun _ => ⟨by omega, by omega, by omega, by omega, by omega, ?_⟩, fun h => absurd h6 h⟩
    exact hr.2.2
  · rw [if_neg h6] at hr
    simp at hr
    exact ⟨by omega, by omega, fun h => absurd h h6, fun _ => ⟨by omega, by omega, by omega, by omega, by omega, by omega⟩⟩
theorem len_hdB (s : Sg) : (hdB s).length = if s.p = 6 then 20 else 8 := by
  unfold hdB
  split
  · simp [fldB, tcpF, length_numBytes]
  · simp [fldB, length_numBytes]

end Go.Proofs.Ytdlilokmfekndaa

end
section
/-
  The walks of segment.Put: of a datagram with and without a sum, refused; of whatever segment.
-/
namespace Go.Proofs.Ytdlilokmfekndaa
open Go.RowKit
attribute [local go_sem ↓] exec_span exec_put exec_build heap_alloc_new heap_old
attribute [local go_sem] spanQ_ptr spanC_some heap_of_drew heap_of_drewN rs_arr rs_ad rs_ip rs_rip rs_seg putAt_ptr putOk_ptr oldOk_some World.setRow_alloc_new
set_option maxRecDepth 100000
set_option linter.unusedVariables false
set_option linter.unusedSimpArgs false

/-- Put of whatever segment, whatever packet it is within. -/
def putB (h : Ip) (s : Sg) (O D : List UInt8) : List UInt8 := if putE h s = 0 then segB h s O D else []
end Go.Proofs.Ytdlilokmfekndaa

end
