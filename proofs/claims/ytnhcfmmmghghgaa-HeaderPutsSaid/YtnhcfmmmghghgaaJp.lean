/-
  The walk of the document's own (a head's sum).
-/
import Derived.Test.YtnhcfmmmghghgaaJa
namespace Go.Proofs.Ytnhcfmmmghghgaa
open Go.RowKit
attribute [local go_sem ↓] exec_span exec_put exec_build heap_alloc_new heap_old
attribute [local go_sem] spanQ_ptr spanC_some heap_of_drew heap_of_drewN rs_arr rs_ad rs_ip rs_rip putAt_ptr putOk_ptr oldOk_some World.setRow_alloc_new
set_option maxRecDepth 100000
set_option linter.unusedVariables false
set_option linter.unusedSimpArgs false

/-- a byte of one's own row is written over. -/
theorem OwnB.put {w : World} {base g cap : Nat} {l : List UInt8} (h : OwnB w base (.slice (some ⟨g, 0, none⟩) l.length cap) l) (j : Nat) (hj : j < l.length) (x : UInt8) :
    OwnB (w.setCell ⟨g, j, none⟩ (.int .u8 (x.toNat : Int))) base (.slice (some ⟨g, 0, none⟩) l.length cap) (l.set j x) := by
  have := World.ownsRow.stored h j (.int .u8 (x.toNat : Int))
  unfold OwnB
  rw [List.length_set, List.map_set]
  exact this.1
def clr (l : List UInt8) : List UInt8 := (l.set 10 0).set 11 0
theorem clr_parts {l : List UInt8} (h : 12 ≤ l.length) : clr l = l.take 10 ++ ([0, 0] ++ l.drop 12) := by
  match l, h with
  | _ :: _ :: _ :: _ :: _ :: _ :: _ :: _ :: _ :: _ :: _ :: _ :: t, _ => rfl
  | [], h => exact absurd h (by decide)
  | [_], h => exact absurd h (by simp)
  | [_, _], h => exact absurd h (by simp)
  | [_, _, _], h => exact absurd h (by simp)
  | [_, _, _, _], h => exact absurd h (by simp)
  | [_, _, _, _, _], h => exact absurd h (by simp)
  | [_, _, _, _, _, _], h => exact absurd h (by simp)
  | [_, _, _, _, _, _, _], h => exact absurd h (by simp)
  | [_, _, _, _, _, _, _, _], h => exact absurd h (by simp)
  | [_, _, _, _, _, _, _, _, _], h => exact absurd h (by simp)
  | [_, _, _, _, _, _, _, _, _, _], h => exact absurd h (by simp)
  | [_, _, _, _, _, _, _, _, _, _, _], h => exact absurd h (by simp)
theorem inet_clr {l : List UInt8} (h : 12 ≤ l.length) : inetS (clr l) = headS l := by
  have hle : addS 0 (l.take 10) ≤ 65535 := addS_le _ _ (by omega)
  unfold inetS headS
  rw [clr_parts h, addS_append _ _ _ (by simp; omega), addS_append _ _ _ (by simp)]
  congr 2
  show rnd (addS 0 (l.take 10)) (0 * 256 + 0) = _
  unfold rnd
  rw [if_neg (by omega)]
  rfl

set_option maxHeartbeats 1000000 in
theorem own_any (w : World) (A : Option Addr) (c : Nat) (l : List UInt8) (h12 : 12 ≤ l.length) (hn : l.length ≤ 140737488355328) (hb : Byt w w.heap.size A l) (hnil : A = none → c = 0) :
    Calls Try.prog 28 #[.slice A l.length c] w fun e w' => e = .returned (.int .i64 ((headS l : Nat) : Int)) ∧ Below w.heap.size w w' := by
  have hs := headS_le l
  have hs2 := inet_clr h12
  obtain ⟨s, hS⟩ : ∃ s, s = headS l := ⟨_, rfl⟩
  rw [← hS] at hs hs2 ⊢
  have HS := hide hs2
  clear hS hs2
  go_enter Try.func28, Try.ntmps28
  go_wp2_with (at_builtin; refine wpList_app_bytes rfl (.tmp 4) (.tmp 5) rfl w.heap.size (.slice none 0 0) [] l w.heap.size c A rfl rfl (OwnB.nil _ _) (by exact hb) hnil (by simp; omega) (by simp) ?_)
  intro v1 w1 hown1 hgr1 hat1
  have b1 : Below w.heap.size w w1 := (Below.refl _ _).grown hgr1 (Nat.le_refl _) (fun k hk => by simp [Value.ownBlock] at hk)
  have hown : OwnB w1 w.heap.size v1 l := by simpa using hown1
  clear hown1 hgr1 hat1
  obtain ⟨g, cap, hv, hbg⟩ : ∃ g cap, v1 = .slice (some ⟨g, 0, none⟩) l.length cap ∧ w.heap.size ≤ g := by
    rcases hown.2 with ⟨_, h0⟩ | ⟨g, cap, cur, e, hbg, -⟩
    · omega
    · exact ⟨g, cap, e, hbg⟩
  subst hv
  have hlc : l.length ≤ cap := by obtain ⟨A', c', e, hlc, -⟩ := hown.shape; cases e; exact hlc
  have f10 := hown.frozenAt 10
  have hc10 : ∃ u, w1.cell? ⟨g, 10, none⟩ = some u := ⟨_, (hown.cellAt 10 (by omega)).trans (List.getElem?_eq_getElem (by simp; omega))⟩
  obtain ⟨u10, c10⟩ := hc10
  have ho2 := hown.put 10 (by omega) 0
  have g2 := (World.ownsRow.stored hown 10 (.int .u8 0)).2
  obtain ⟨w2, hw2⟩ : ∃ w2, w1.setCell ⟨g, 10, none⟩ (.int .u8 0) = w2 := ⟨_, rfl⟩
  have ho2' : OwnB w2 w.heap.size (.slice (some ⟨g, 0, none⟩) (l.set 10 0).length cap) (l.set 10 0) := by rw [← hw2, List.length_set]; exact ho2
  rw [hw2] at g2
  have f11 := ho2'.frozenAt 11
  have hc11 : ∃ u, w2.cell? ⟨g, 11, none⟩ = some u := ⟨_, (ho2'.cellAt 11 (by simp; omega)).trans (List.getElem?_eq_getElem (by simp; omega))⟩
  obtain ⟨u11, c11⟩ := hc11
  have ho3 := ho2'.put 11 (by simp; omega) 0
  have g3 := (World.ownsRow.stored ho2' 11 (.int .u8 0)).2
  obtain ⟨w3, hw3⟩ : ∃ w3, w2.setCell ⟨g, 11, none⟩ (.int .u8 0) = w3 := ⟨_, rfl⟩
  have ho3' : OwnB w3 w.heap.size (.slice (some ⟨g, 0, none⟩) (clr l).length cap) (clr l) := by
    have e : (clr l).length = (l.set 10 0).length := by unfold clr; rw [List.length_set]
    rw [← hw3, e]; exact ho3
  rw [hw3] at g3
  have hcl : (clr l).length = l.length := by unfold clr; simp
  have b2 : Below w.heap.size w w2 := b1.grown g2 b1.size (fun k hk => by cases hk; exact hbg)
  have b3 : Below w.heap.size w w3 := b2.grown g3 b2.size (fun k hk => by cases hk; exact hbg)
  obtain ⟨A', c', hv', hlc3, hby3, -, -⟩ := ho3'.shape
  cases hv'
  have RI := refinet_any (some ⟨g, 0, none⟩) cap (clr l) w3.heap.size w3 hlc3 (by omega) hby3
  rw [HS.out, hcl] at RI
  have HRI := hide RI
  have HB3 := hide b3
  have hl10 : (10 : Int) < (l.length : Int) := by omega
  have hl11 : (11 : Int) < (l.length : Int) := by omega
  have hwr : IntKind.i64.wrap (s : Int) = (s : Int) := IntWalk.i64_in _ (by omega)
  clear RI hby3 hlc3 ho3 ho3' ho2 ho2' g2 g3 hown b1 b2 b3 hcl hs HS
  go_wp2_with fail
  refine HRI.out.mono ?_
  rintro e w4 ⟨rfl, rfl⟩
  dsimp only
  go_wp2
  go_ret
  exact ⟨rfl, HB3.out⟩
end Go.Proofs.Ytnhcfmmmghghgaa
