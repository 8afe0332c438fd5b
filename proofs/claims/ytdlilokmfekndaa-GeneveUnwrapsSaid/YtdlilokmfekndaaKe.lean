/-
  The walks of segment.Put: of another protocol; of a datagram with a sum.
-/
import Derived.Test.YtdlilokmfekndaaKd
import Derived.Test.YtdlilokmfekndaaKg
namespace Go.Proofs.Ytdlilokmfekndaa
open Go.RowKit
attribute [local go_sem ↓] exec_span exec_put exec_build heap_alloc_new heap_old
attribute [local go_sem] spanQ_ptr spanC_some heap_of_drew heap_of_drewN rs_arr rs_ad rs_ip rs_rip rs_seg putAt_ptr putOk_ptr oldOk_some World.setRow_alloc_new
set_option maxRecDepth 100000
set_option linter.unusedVariables false
set_option linter.unusedSimpArgs false

/-- a byte of one's own row is written over. -/
theorem putByte {w : World} {base g cap : Nat} {l : List UInt8} (h : OwnB w base (.slice (some ⟨g, 0, none⟩) l.length cap) l) (j : Nat) (hj : j < l.length) (x : UInt8) :
    OwnB (w.setCell ⟨g, j, none⟩ (.int .u8 (x.toNat : Int))) base (.slice (some ⟨g, 0, none⟩) l.length cap) (l.set j x) := by
  have := World.ownsRow.stored h j (.int .u8 (x.toNat : Int))
  unfold OwnB
  rw [List.length_set, List.map_set]
  exact this.1
/-- a datagram's bytes ahead of its sum, and with it. -/
def udp0 (an bn : Nat) (D : List UInt8) : List UInt8 := fldB [(2, an), (2, bn), (2, 8 + D.length), (2, 0)] ++ D
def udpB (h : Ip) (an bn : Nat) (D : List UInt8) : List UInt8 := ((udp0 an bn D).set 6 (b8 (((sumV h (udp0 an bn D) 6 : Nat) : Int) / 256))).set 7 (b8 ((sumV h (udp0 an bn D) 6 : Nat) : Int))

end Go.Proofs.Ytdlilokmfekndaa
