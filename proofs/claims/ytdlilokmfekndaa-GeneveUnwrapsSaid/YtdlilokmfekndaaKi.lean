/-
  The walks of segment.piecesTcp, of the head of a segment of TCP, of segment.Put of TCP.
-/
import Derived.Test.YtdlilokmfekndaaKe
namespace Go.Proofs.Ytdlilokmfekndaa
open Go.RowKit
attribute [local go_sem ↓] exec_span exec_put exec_build heap_alloc_new heap_old
attribute [local go_sem] spanQ_ptr spanC_some heap_of_drew heap_of_drewN rs_arr rs_ad rs_ip rs_rip rs_seg putAt_ptr putOk_ptr oldOk_some World.setRow_alloc_new
set_option maxRecDepth 100000
set_option linter.unusedVariables false
set_option linter.unusedSimpArgs false

def tcpN : List Nat := [2, 2, 4, 4, 1, 1, 2, 2, 2]
set_option maxHeartbeats 1000000 in
theorem piecesT_any (w : World) : Calls Try.prog 46 #[] w fun e w' => ∃ v, e = .returned v ∧ OwnO w' w.heap.size v (opsN tcpN) ∧ Below w.heap.size w w' := by
  have h := piecesN_any (w.alloc (.cells #[.int .i64 2, .int .i64 2, .int .i64 4, .int .i64 4, .int .i64 1, .int .i64 1, .int .i64 2, .int .i64 2, .int .i64 2] 3)) (some ⟨w.heap.size, 0, none⟩) 9 tcpN (by
    have := IntsAt.lit w .i64 [2, 2, 4, 4, 1, 1, 2, 2, 2] #[.int .i64 2, .int .i64 2, .int .i64 4, .int .i64 4, .int .i64 1, .int .i64 1, .int .i64 2, .int .i64 2, .int .i64 2] 3 rfl
    rwa [show (w.alloc (.cells #[.int .i64 2, .int .i64 2, .int .i64 4, .int .i64 4, .int .i64 1, .int .i64 1, .int .i64 2, .int .i64 2, .int .i64 2] 3)).heap.size = w.heap.size + 1 by simp]) (by simp [tcpN])
  have H := hide h
  clear h
  go_enter Try.func46, Try.ntmps46
  go_wp2_with fail
  refine H.out.mono ?_
  rintro e w2 ⟨v, rfl, ho, hb⟩
  have hb2 : Below w.heap.size w w2 := ((Below.refl w.heap.size w).alloc (Nat.le_refl _) _).trans (hb.mono (by simp))
  have ho2 : OwnO w2 w.heap.size v (opsN tcpN) := own_low ho (by simp)
  have H1 := hide hb2
  have H2 := hide ho2
  clear hb2 ho2 ho hb
  go_wp2
  go_ret
  exact ⟨_, rfl, H2.out, H1.out⟩

def tcpF (an bn q k no fn wn un : Nat) : List (Nat × Nat) := [(2, an), (2, bn), (4, q), (4, k), (1, (20 + no) / 4 * 16), (1, fn), (2, wn), (2, 0), (2, un)]
theorem tcpF_zip (an bn q k no fn wn un : Nat) : tcpN.zip [an, bn, q, k, (20 + no) / 4 * 16, fn, wn, 0, un] = tcpF an bn q k no fn wn un := rfl
def tcpI (an bn q k M fn wn un : Nat) : List Int := [(an : Int), (bn : Int), (q : Int), (k : Int), (M : Int), (fn : Int), (wn : Int), 0, (un : Int)]
end Go.Proofs.Ytdlilokmfekndaa
