import Derived.Test.YtihakjcccbionaaGreatDoorJm
import Derived.Test.YtihakjcccbionaaGreatDoorMkp
import Derived.Test.YtihakjcccbionaaGreatDoorJa
import Derived.Test.YtihakjcccbionaaGreatDoorJb
import Derived.Test.YtihakjcccbionaaGreatDoorBits
section
/-
  The walks of the statement HeaderSum and of the document's Size.
-/
namespace Go.Proofs.YtihakjcccbionaaGreatDoor
open Go.RowKit
attribute [local go_sem ↓] exec_span exec_put exec_build heap_alloc_new heap_old
attribute [local go_sem] spanQ_ptr spanC_some heap_of_drew heap_of_drewN rs_arr rs_ad rs_ip rs_rip putAt_ptr putOk_ptr oldOk_some World.setRow_alloc_new
set_option maxRecDepth 100000
set_option linter.unusedVariables false
set_option linter.unusedSimpArgs false

set_option maxHeartbeats 1000000 in
theorem refsizeH_any (w : World) (X : Array Value) (h : Ip) (x : IpV X h) (hn : h.no ≤ 140737488355328) :
    Calls Tryz.prog 46 #[.agg X] w fun e w' => e = .returned (.int .i64 (sizeH h)) ∧ Below w.heap.size w w' := by
  have hxs := x.size
  obtain ⟨W, hW, h1, hz, hb⟩ := one_block w (.cells X 62)
  have hc := x.cells h1
  have d0 := hc.c0
  have d41 := hc.c41
  have H := hide (show sizeH h = if h.v then 40 else 20 + (h.no : Int) from rfl)
  have hB := hide hb
  obtain ⟨v, hv⟩ : ∃ v, v = h.v := ⟨_, rfl⟩
  rw [← hv] at d0 H
  clear hc hz hb h1 x hxs hv
  cases v
  · go_enter Tryz.func46, Tryz.ntmps46
    go_wp2
    go_ret
    exact ⟨ret_int (by rw [H.out]; rfl), hB.out⟩
  · go_enter Tryz.func46, Tryz.ntmps46
    go_wp2
    go_ret
    exact ⟨ret_int (by rw [H.out]; rfl), hB.out⟩
theorem putG {w : World} {X : Array Value} {h : Ip} {O D : List UInt8} (p : InP w X h O D) (W1 : World) (g1 g2 : Nat) (L1 : Lentd W1 g1 O) (L2 : Lentd W1 g2 D) :
    Calls Tryz.prog 17 #[.agg (ipL (givH h g1 g2)).toArray] W1 fun e w' => ∃ A c, e = .returned (.tuple #[.slice A (pktB h O D).length c, .int .i64 (pktE h)]) ∧ OwnB w' W1.heap.size (.slice A (pktB h O D).length c) (pktB h O D) ∧ Below W1.heap.size W1 w' :=
  putH_any W1 (ipL (givH h g1 g2)).toArray (givH h g1 g2) ⟨rfl, p.x.ls, p.x.ld⟩ O D (L1.byt L1.lt) p.ol (L2.byt L2.lt) p.dl (Nat.le_trans p.om (by decide)) (Nat.le_trans p.dm (by decide))

end Go.Proofs.YtihakjcccbionaaGreatDoor

end
section
/-
  The walk of the document's own (a head's sum).
-/
namespace Go.Proofs.YtihakjcccbionaaGreatDoor
open Go.RowKit
attribute [local go_sem ↓] exec_span exec_put exec_build heap_alloc_new heap_old
attribute [local go_sem] spanQ_ptr spanC_some heap_of_drew heap_of_drewN rs_arr rs_ad rs_ip rs_rip putAt_ptr putOk_ptr oldOk_some World.setRow_alloc_new
set_option maxRecDepth 100000
set_option linter.unusedVariables false
set_option linter.unusedSimpArgs false

/-- a byte of one's own row is written over. -/
theorem OwnB.put {w : World} {base g cap : Nat} {l : List UInt8} (h : OwnB w base (.slice (some ⟨g, 0, none⟩) l.length cap) l) (j : Nat) (hj : j < l.length) (x : UInt8) :
    OwnB (w.setCell ⟨g, j, none⟩ (.int .u8 (x.toNat : Int))) base (.slice (some ⟨g, 0, none⟩) l.length cap) (l.set j x) := by
  have := World.ownsRow.stored h j (.int .u8 (x.toNat : Int))
  unfold OwnB
  rw [List.length_set, List.map_set]
  exact this.1
def clr (l : List UInt8) : List UInt8 := (l.set 10 0).set 11 0
theorem clr_parts {l : List UInt8} (h : 12 ≤ l.length) : clr l = l.take 10 ++ ([0, 0] ++ l.drop 12) := by
  match l, h with
  | _ :: _ :: _ :: _ :: _ :: _ :: _ :: _ :: _ :: _ :: _ :: _ :: t, _ => rfl
  | [], h => exact absurd h (by decide)
  | [_], h => exact absurd h (by simp)
  | [_, _], h => exact absurd h (by simp)
  | [_, _, _], h => exact absurd h (by simp)
  | [_, _, _, _], h => exact absurd h (by simp)
  | [_, _, _, _, _], h => exact absurd h (by simp)
  | [_, _, _, _, _, _], h => exact absurd h (by simp)
  | [_, _, _, _, _, _, _], h => exact absurd h (by simp)
  | [_, _, _, _, _, _, _, _], h => exact absurd h (by simp)
  | [_, _, _, _, _, _, _, _, _], h => exact absurd h (by simp)
  | [_, _, _, _, _, _, _, _, _, _], h => exact absurd h (by simp)
  | [_, _, _, _, _, _, _, _, _, _, _], h => exact absurd h (by simp)
theorem inet_clr {l : List UInt8} (h : 12 ≤ l.length) : inetS (clr l) = headS l := by
  have hle : addS 0 (l.take 10) ≤ 65535 := addS_le _ _ (by omega)
  unfold inetS headS
  rw [clr_parts h, addS_append _ _ _ (by simp; omega), addS_append _ _ _ (by simp)]
  congr 2
  show rnd (addS 0 (l.take 10)) (0 * 256 + 0) = _
  unfold rnd
  rw [if_neg (by omega)]
  rfl

set_option maxHeartbeats 1000000 in
theorem own_any (w : World) (A : Option Addr) (c : Nat) (l : List UInt8) (h12 : 12 ≤ l.length) (hn : l.length ≤ 140737488355328) (hb : Byt w w.heap.size A l) (hnil : A = none → c = 0) :
    Calls Tryz.prog 49 #[.slice A l.length c] w fun e w' => e = .returned (.int .i64 ((headS l : Nat) : Int)) ∧ Below w.heap.size w w' := by
  have hs := headS_le l
  have hs2 := inet_clr h12
  obtain ⟨s, hS⟩ : ∃ s, s = headS l := ⟨_, rfl⟩
  rw [← hS] at hs hs2 ⊢
  have HS := hide hs2
  clear hS hs2
  go_enter Tryz.func49, Tryz.ntmps49
  go_wp2_with (at_builtin; refine wpList_app_bytes rfl (.tmp 4) (.tmp 5) rfl w.heap.size (.slice none 0 0) [] l w.heap.size c A rfl rfl (OwnB.nil _ _) (by exact hb) hnil (by simp; omega) (by simp) ?_)
  intro v1 w1 hown1 hgr1 hat1
  have b1 : Below w.heap.size w w1 := (Below.refl _ _).grown hgr1 (Nat.le_refl _) (fun k hk => by simp [Value.ownBlock] at hk)
  have hown : OwnB w1 w.heap.size v1 l := by simpa using hown1
  clear hown1 hgr1 hat1
  obtain ⟨g, cap, hv, hbg⟩ : ∃ g cap, v1 = .slice (some ⟨g, 0, none⟩) l.length cap ∧ w.heap.size ≤ g := by
    rcases hown.2 with ⟨_, h0⟩ | ⟨g, cap, cur, e, hbg, -⟩
    · omega
    · exact ⟨g, cap, e, hbg⟩
  subst hv
  have hlc : l.length ≤ cap := by obtain ⟨A', c', e, hlc, -⟩ := hown.shape; cases e; exact hlc
  have f10 := hown.frozenAt 10
  have hc10 : ∃ u, w1.cell? ⟨g, 10, none⟩ = some u := ⟨_, (hown.cellAt 10 (by omega)).trans (List.getElem?_eq_getElem (by simp; omega))⟩
  obtain ⟨u10, c10⟩ := hc10
  have ho2 := hown.put 10 (by omega) 0
  have g2 := (World.ownsRow.stored hown 10 (.int .u8 0)).2
  obtain ⟨w2, hw2⟩ : ∃ w2, w1.setCell ⟨g, 10, none⟩ (.int .u8 0) = w2 := ⟨_, rfl⟩
  have ho2' : OwnB w2 w.heap.size (.slice (some ⟨g, 0, none⟩) (l.set 10 0).length cap) (l.set 10 0) := by rw [← hw2, List.length_set]; exact ho2
  rw [hw2] at g2
  have f11 := ho2'.frozenAt 11
  have hc11 : ∃ u, w2.cell? ⟨g, 11, none⟩ = some u := ⟨_, (ho2'.cellAt 11 (by simp; omega)).trans (List.getElem?_eq_getElem (by simp; omega))⟩
  obtain ⟨u11, c11⟩ := hc11
  have ho3 := ho2'.put 11 (by simp; omega) 0
  have g3 := (World.ownsRow.stored ho2' 11 (.int .u8 0)).2
  obtain ⟨w3, hw3⟩ : ∃ w3, w2.setCell ⟨g, 11, none⟩ (.int .u8 0) = w3 := ⟨_, rfl⟩
  have ho3' : OwnB w3 w.heap.size (.slice (some ⟨g, 0, none⟩) (clr l).length cap) (clr l) := by
    have e : (clr l).length = (l.set 10 0).length := by unfold clr; rw [List.length_set]
    rw [← hw3, e]; exact ho3
  rw [hw3] at g3
  have hcl : (clr l).length = l.length := by unfold clr; simp
  have b2 : Below w.heap.size w w2 := b1.grown g2 b1.size (fun k hk => by cases hk; exact hbg)
  have b3 : Below w.heap.size w w3 := b2.grown g3 b2.size (fun k hk => by cases hk; exact hbg)
  obtain ⟨A', c', hv', hlc3, hby3, -, -⟩ := ho3'.shape
  cases hv'
  have RI := refinet_any (some ⟨g, 0, none⟩) cap (clr l) w3.heap.size w3 hlc3 (by omega) hby3
  rw [HS.out, hcl] at RI
  have HRI := hide RI
  have HB3 := hide b3
  have hl10 : (10 : Int) < (l.length : Int) := by omega
  have hl11 : (11 : Int) < (l.length : Int) := by omega
  have hwr : IntKind.i64.wrap (s : Int) = (s : Int) := IntWalk.i64_in _ (by omega)
  clear RI hby3 hlc3 ho3 ho3' ho2 ho2' g2 g3 hown b1 b2 b3 hcl hs HS
  go_wp2_with fail
  refine HRI.out.mono ?_
  rintro e w4 ⟨rfl, rfl⟩
  dsimp only
  go_wp2
  go_ret
  exact ⟨rfl, HB3.out⟩
end Go.Proofs.YtihakjcccbionaaGreatDoor

end
section
/-
  The walk of the document's Right.
-/
namespace Go.Proofs.YtihakjcccbionaaGreatDoor
open Go.RowKit
attribute [local go_sem ↓] exec_span exec_put exec_build heap_alloc_new heap_old
attribute [local go_sem] spanQ_ptr spanC_some heap_of_drew heap_of_drewN rs_arr rs_ad rs_ip rs_rip putAt_ptr putOk_ptr oldOk_some World.setRow_alloc_new
set_option maxRecDepth 100000
set_option linter.unusedVariables false
set_option linter.unusedSimpArgs false

set_option maxHeartbeats 8000000 in
theorem refrightH_any (w : World) (X : Array Value) (h : Ip) (x : IpV X h) (hn : h.no ≤ 140737488355328) :
    Calls Tryz.prog 45 #[.agg X] w fun e w' => e = .returned (.bool (rightH h)) ∧ Below w.heap.size w w' := by
  have hxs := x.size
  have hxr := x.x0
  obtain ⟨S, hS⟩ : ∃ S, S = (adL h.sv h.sb).toArray := ⟨_, rfl⟩
  obtain ⟨D, hD⟩ : ∃ D, D = (adL h.dv h.db).toArray := ⟨_, rfl⟩
  have hsrc := x.src
  have hdst := x.dst
  rw [← hS] at hsrc
  rw [← hD] at hdst
  have aS : AdV S h.sv h.sb := by rw [hS]; exact AdV.mk' x.ls
  have aD : AdV D h.dv h.db := by rw [hD]; exact AdV.mk' x.ld
  have K1 := hide (fun W => refright_any W S h.sv h.sb aS)
  have K2 := hide (fun W => refright_any W D h.dv h.db aD)
  have U1 := hide (fun W => within_num W 255 h.p)
  have U2 := hide (fun W => within_num W 255 h.ttl)
  have U3 := hide (fun W => within_num W 255 h.tos)
  have U4 := hide (fun W => within_num W 1048575 h.lab)
  have U5 := hide (fun W => within_num W 65535 h.id)
  obtain ⟨W, hW, h1, hz, hb⟩ := one_block w (.cells X 62)
  obtain ⟨rs, hr1⟩ : ∃ r, r = rightL h.sv h.sb := ⟨_, rfl⟩
  obtain ⟨rd, hr2⟩ : ∃ r, r = rightL h.dv h.db := ⟨_, rfl⟩
  obtain ⟨u1, hu1⟩ : ∃ r, r = upS 255 h.p := ⟨_, rfl⟩
  obtain ⟨u2, hu2⟩ : ∃ r, r = upS 255 h.ttl := ⟨_, rfl⟩
  obtain ⟨u3, hu3⟩ : ∃ r, r = upS 255 h.tos := ⟨_, rfl⟩
  obtain ⟨u4, hu4⟩ : ∃ r, r = upS 1048575 h.lab := ⟨_, rfl⟩
  obtain ⟨u5, hu5⟩ : ∃ r, r = upS 65535 h.id := ⟨_, rfl⟩
  obtain ⟨R, hR⟩ : ∃ R, R = rightH h := ⟨_, rfl⟩
  obtain ⟨sv, hsv⟩ : ∃ r, r = h.sv := ⟨_, rfl⟩
  obtain ⟨dv, hdv⟩ : ∃ r, r = h.dv := ⟨_, rfl⟩
  obtain ⟨v, hv⟩ : ∃ v, v = h.v := ⟨_, rfl⟩
  obtain ⟨df, hdf⟩ : ∃ v, v = h.df := ⟨_, rfl⟩
  obtain ⟨idn, hid⟩ : ∃ v, v = h.id := ⟨_, rfl⟩
  obtain ⟨lab, hlab⟩ : ∃ v, v = h.lab := ⟨_, rfl⟩
  obtain ⟨no, hno⟩ : ∃ v, v = h.no := ⟨_, rfl⟩
  have HR : R = ((rs && sv == v) && (rd && dv == v) && u1 && u2 && u3 && (if v then idn == 0 && !df && no == 0 && u4 else u5 && lab == 0 && decide (no ≤ 40) && no % 4 == 0)) := by
    rw [hR, hr1, hr2, hu1, hu2, hu3, hu4, hu5, hsv, hdv, hv, hdf, hid, hlab, hno]; rfl
  have HC : Hid (∀ w', Below W.heap.size W w' → w'.heap[w.heap.size]? = some (.cells X 62 (0, 0)) ∧ w'.cell? ⟨w.heap.size, 0, none⟩ = some (.bool v) ∧ w'.cell? ⟨w.heap.size, 1, none⟩ = some (.bool sv) ∧ w'.cell? ⟨w.heap.size, 18, none⟩ = some (.bool dv) ∧ w'.cell? ⟨w.heap.size, 35, none⟩ = some (.int .i64 h.p) ∧ w'.cell? ⟨w.heap.size, 36, none⟩ = some (.int .i64 h.ttl) ∧ w'.cell? ⟨w.heap.size, 37, none⟩ = some (.int .i64 h.tos) ∧ w'.cell? ⟨w.heap.size, 38, none⟩ = some (.int .i64 idn) ∧ w'.cell? ⟨w.heap.size, 39, none⟩ = some (.bool df) ∧ w'.cell? ⟨w.heap.size, 40, none⟩ = some (.int .i64 lab) ∧ w'.cell? ⟨w.heap.size, 41, none⟩ = some (.slice h.ao no h.co) ∧ w'.cell? ⟨w.heap.size, 42, none⟩ = some (.slice h.ad h.nd h.cd)) := by
    rw [hv, hsv, hdv, hdf, hid, hlab, hno]
    exact hide fun w' hb => by
      have q := x.cells (row_kept hb (by omega) h1)
      exact ⟨row_kept hb (by omega) h1, q.c0, q.c1, q.c18, q.c35, q.c36, q.c37, q.c38, q.c39, q.c40, q.c41, q.c42⟩
  rw [← hsv] at K1
  rw [← hdv] at K2
  have hr1' : rs = rightL sv h.sb := by rw [hsv]; exact hr1
  have hr2' : rd = rightL dv h.db := by rw [hdv]; exact hr2
  rw [← hr1'] at K1
  rw [← hr2'] at K2
  rw [← hu1] at U1
  rw [← hu2] at U2
  rw [← hu3] at U3
  rw [← hlab, show upS 1048575 lab = u4 by rw [hu4, hlab]] at U4
  rw [← hid, show upS 65535 idn = u5 by rw [hu5, hid]] at U5
  rw [← hR]
  rw [← hno] at hn
  obtain ⟨c0', c1', c2', c3', c4', c5', c6', c7', c8', c9', c10', c11'⟩ := HC.out W (Below.refl _ _)
  have hB := hide hb
  have hz := hide hz
  clear hr1 hr2 hr1' hr2' hu1 hu2 hu3 hu4 hu5 hsv hdv hv hdf hid hlab hno hb aS aD hS hD x hR
  have key : (rs = false ∧ R = false) ∨ (rs = true ∧ rd = false ∧ R = false) ∨ (rs = true ∧ rd = true ∧ sv = true ∧ v = false ∧ R = false) ∨ (rs = true ∧ rd = true ∧ sv = false ∧ v = true ∧ R = false)
    ∨ (rs = true ∧ rd = true ∧ sv = false ∧ v = false ∧ dv = true ∧ R = false) ∨ (rs = true ∧ rd = true ∧ sv = true ∧ v = true ∧ dv = false ∧ R = false)
    ∨ (rs = true ∧ rd = true ∧ sv = false ∧ v = false ∧ dv = false ∧ u1 = false ∧ R = false) ∨ (rs = true ∧ rd = true ∧ sv = false ∧ v = false ∧ dv = false ∧ u1 = true ∧ u2 = false ∧ R = false) ∨ (rs = true ∧ rd = true ∧ sv = false ∧ v = false ∧ dv = false ∧ u1 = true ∧ u2 = true ∧ u3 = false ∧ R = false)
    ∨ (rs = true ∧ rd = true ∧ sv = true ∧ v = true ∧ dv = true ∧ u1 = false ∧ R = false) ∨ (rs = true ∧ rd = true ∧ sv = true ∧ v = true ∧ dv = true ∧ u1 = true ∧ u2 = false ∧ R = false) ∨ (rs = true ∧ rd = true ∧ sv = true ∧ v = true ∧ dv = true ∧ u1 = true ∧ u2 = true ∧ u3 = false ∧ R = false)
    ∨ (rs = true ∧ rd = true ∧ sv = false ∧ v = false ∧ dv = false ∧ u1 = true ∧ u2 = true ∧ u3 = true ∧ u5 = false ∧ R = false)
    ∨ (rs = true ∧ rd = true ∧ sv = false ∧ v = false ∧ dv = false ∧ u1 = true ∧ u2 = true ∧ u3 = true ∧ u5 = true ∧ (lab == 0) = false ∧ R = false)
    ∨ (rs = true ∧ rd = true ∧ sv = false ∧ v = false ∧ dv = false ∧ u1 = true ∧ u2 = true ∧ u3 = true ∧ u5 = true ∧ lab = 0 ∧ ¬ (no : Int) ≤ 40 ∧ R = false)
    ∨ (rs = true ∧ rd = true ∧ sv = false ∧ v = false ∧ dv = false ∧ u1 = true ∧ u2 = true ∧ u3 = true ∧ u5 = true ∧ lab = 0 ∧ (no : Int) ≤ 40 ∧ ((no : Int) % 4 == 0) = R)
    ∨ (rs = true ∧ rd = true ∧ sv = true ∧ v = true ∧ dv = true ∧ u1 = true ∧ u2 = true ∧ u3 = true ∧ (idn == 0) = false ∧ R = false)
    ∨ (rs = true ∧ rd = true ∧ sv = true ∧ v = true ∧ dv = true ∧ u1 = true ∧ u2 = true ∧ u3 = true ∧ idn = 0 ∧ df = true ∧ R = false)
    ∨ (rs = true ∧ rd = true ∧ sv = true ∧ v = true ∧ dv = true ∧ u1 = true ∧ u2 = true ∧ u3 = true ∧ idn = 0 ∧ df = false ∧ ((no : Int) == 0) = false ∧ R = false)
    ∨ (rs = true ∧ rd = true ∧ sv = true ∧ v = true ∧ dv = true ∧ u1 = true ∧ u2 = true ∧ u3 = true ∧ idn = 0 ∧ df = false ∧ no = 0 ∧ u4 = R) := by
    rw [HR]
    clear HR K1 K2 U1 U2 U3 U4 U5 HC
    have n4 : ((no : Int) % 4 == 0) = (no % 4 == 0) := by
      rw [Bool.eq_iff_iff]; simp; omega
    rw [n4]
    by_cases i0 : idn = 0 <;> by_cases l0 : lab = 0 <;> by_cases n0 : no = 0 <;> by_cases n40 : no ≤ 40 <;>
    cases rs <;> cases rd <;> cases sv <;> cases v <;> cases dv <;> (try simp) <;> (try (cases u1 <;> (try simp) <;> cases u2 <;> (try simp) <;> cases u3 <;> (try simp [*]) <;> cases df <;> (try simp [*]) <;> cases u5 <;> (try simp [*]) <;> (try omega)))
  clear HR
  rcases key with ⟨rfl, rfl⟩ | ⟨rfl, rfl, rfl⟩ | ⟨rfl, rfl, rfl, rfl, rfl⟩ | ⟨rfl, rfl, rfl, rfl, rfl⟩ | ⟨rfl, rfl, rfl, rfl, rfl, rfl⟩ | ⟨rfl, rfl, rfl, rfl, rfl, rfl⟩ | ⟨rfl, rfl, rfl, rfl, rfl, rfl, rfl⟩ | ⟨rfl, rfl, rfl, rfl, rfl, rfl, rfl, rfl⟩ | ⟨rfl, rfl, rfl, rfl, rfl, rfl, rfl, rfl, rfl⟩ | ⟨rfl, rfl, rfl, rfl, rfl, rfl, rfl⟩ | ⟨rfl, rfl, rfl, rfl, rfl, rfl, rfl, rfl⟩ | ⟨rfl, rfl, rfl, rfl, rfl, rfl, rfl, rfl, rfl⟩ | ⟨rfl, rfl, rfl, rfl, rfl, rfl, rfl, rfl, rfl, rfl⟩ | ⟨rfl, rfl, rfl, rfl, rfl, rfl, rfl, rfl, rfl, q1, rfl⟩ | ⟨rfl, rfl, rfl, rfl, rfl, rfl, rfl, rfl, rfl, rfl, q1, rfl⟩ | ⟨rfl, rfl, rfl, rfl, rfl, rfl, rfl, rfl, rfl, rfl, q1, q2⟩ | ⟨rfl, rfl, rfl, rfl, rfl, rfl, rfl, rfl, q1, rfl⟩ | ⟨rfl, rfl, rfl, rfl, rfl, rfl, rfl, rfl, rfl, rfl, rfl⟩ | ⟨rfl, rfl, rfl, rfl, rfl, rfl, rfl, rfl, rfl, rfl, q1, rfl⟩ | ⟨rfl, rfl, rfl, rfl, rfl, rfl, rfl, rfl, rfl, rfl, rfl, rfl⟩
  all_goals (
    subst hW
    go_enter Tryz.func45, Tryz.ntmps45
    go_wp2_with (first
      | (go_at_call 79; (with_reducible refine (K1.out _).mono ?_); rintro e w1 ⟨rfl, hb1⟩; have B1 := hide hb1; obtain ⟨g1, k0, k1, k2, k3, k4, k5, k6, k7, k8, k9, k10⟩ := HC.out w1 hb1; clear hb1)
      | (go_at_call 79; (with_reducible refine (K2.out _).mono ?_); rintro e w2 ⟨rfl, hb2⟩; have B1 := hide (B1.out.trans (hb2.mono B1.out.size)); obtain ⟨g2, m0, m1, m2, m3, m4, m5, m6, m7, m8, m9, m10⟩ := HC.out w2 B1.out; clear k0 k1 k2 k3 k4 k5 k6 k7 k8 k9 k10 g1 hb2)
      | (go_at_call 80; (with_reducible refine (U1.out _).mono ?_); rintro e wx ⟨rfl, rfl⟩)
      | (go_at_call 80; (with_reducible refine (U2.out _).mono ?_); rintro e wx ⟨rfl, rfl⟩)
      | (go_at_call 80; (with_reducible refine (U3.out _).mono ?_); rintro e wx ⟨rfl, rfl⟩)
      | (go_at_call 80; (with_reducible refine (U4.out _).mono ?_); rintro e wx ⟨rfl, rfl⟩)
      | (go_at_call 80; (with_reducible refine (U5.out _).mono ?_); rintro e wx ⟨rfl, rfl⟩)
      | fail)
    go_ret
    exact ⟨ret_b (by first | rfl | assumption | (simp [*]; done)), hB.out.trans (B1.out.mono (by have := hz.out; omega))⟩)
end Go.Proofs.YtihakjcccbionaaGreatDoor

end
section
/-
  The walk of the document's Same of two packets that are alike.
-/
namespace Go.Proofs.YtihakjcccbionaaGreatDoor
open Go.RowKit
attribute [local go_sem ↓] exec_span exec_put exec_build heap_alloc_new heap_old
attribute [local go_sem] spanQ_ptr spanC_some heap_of_drew heap_of_drewN rs_arr rs_ad rs_ip rs_rip putAt_ptr putOk_ptr oldOk_some World.setRow_alloc_new
set_option maxRecDepth 100000
set_option linter.unusedVariables false
set_option linter.unusedSimpArgs false

/-- a packet with its two lists in other memory. -/
def othH (h : Ip) (ao : Option Addr) (co : Nat) (ad : Option Addr) (cd : Nat) : Ip := { h with ao := ao, co := co, ad := ad, cd := cd }
end Go.Proofs.YtihakjcccbionaaGreatDoor

end
section
/-
  The document's bytes of a packet are the program's.
-/
namespace Go.Proofs.YtihakjcccbionaaGreatDoor
open Go.RowKit
set_option linter.unusedVariables false
set_option linter.unusedSimpArgs false

theorem b8_natJ (N : Nat) : b8 (N : Int) = UInt8.ofNat N := by
  unfold b8
  have e : ((N : Int) % 256).toNat = N % 256 := by omega
  rw [e]
  apply UInt8.toNat_inj.1
  rw [UInt8.toNat_ofNat', UInt8.toNat_ofNat']
  omega
theorem b8_div (N k : Nat) : b8 ((N : Int) / (k : Int)) = UInt8.ofNat (N / k) := by
  rw [← Int.natCast_ediv]; exact b8_natJ _
theorem b8_d256 (N : Nat) : b8 ((N : Int) / 256) = UInt8.ofNat (N / 256) := b8_div N 256
theorem b8_of {z : Int} (h : 0 ≤ z) : b8 z = UInt8.ofNat z.toNat := by
  have e : z = (z.toNat : Int) := (Int.toNat_of_nonneg h).symm
  rw [e]; exact b8_natJ _
theorem b8_hi {z : Int} (h : 0 ≤ z) : b8 (z / 256) = UInt8.ofNat (z.toNat / 256) := by
  have e : z = (z.toNat : Int) := (Int.toNat_of_nonneg h).symm
  rw [e]; exact b8_div _ 256
theorem numI1 (n : Nat) : numBytes n 1 1 = [UInt8.ofNat n] := by simp [numBytes]
theorem numI2 (n : Nat) : numBytes n 2 2 = [UInt8.ofNat (n / 256), UInt8.ofNat n] := by simp [numBytes, List.range_succ]
theorem numI4 (n : Nat) : numBytes n 4 4 = [UInt8.ofNat (n / 16777216), UInt8.ofNat (n / 65536), UInt8.ofNat (n / 256), UInt8.ofNat n] := by simp [numBytes, List.range_succ]
theorem ofNat_eq {a b : Nat} (h : a % 256 = b % 256) : UInt8.ofNat a = UInt8.ofNat b := by
  apply UInt8.toNat_inj.1
  rw [UInt8.toNat_ofNat', UInt8.toNat_ofNat']
  exact h
theorem set_twoJ (A R : List UInt8) (a b x y : UInt8) (hA : A.length = 10) : ((A ++ ([a, b] ++ R)).set 10 x).set 11 y = A ++ ([x, y] ++ R) := by
  rw [List.set_append_right _ _ (by omega), List.set_append_right _ _ (by omega), hA]
  rfl
theorem bA_doc {h : Ip} {q S nd : Nat} {dz : Int} (he : pktE h = 0) (hv : h.v = false) (hq : q = S / 4) (hS : S = 20 + h.no) (hnd : nd = h.nd) (hdz : dz = if h.df then 16384 else 0) :
    [b8 (64 + (q : Int)), b8 h.tos] ++ ([b8 (((S : Int) + (nd : Int)) / 256), b8 ((S : Int) + (nd : Int))] ++ ([b8 (h.id / 256), b8 h.id] ++ ([b8 (dz / 256), b8 dz] ++ [b8 h.ttl, b8 h.p]))) = bA h := by
  obtain ⟨hr, hs⟩ := pktE_zero he
  obtain ⟨⟨q1, q2⟩, ⟨q3, q4⟩, ⟨q5, q6⟩, -, qq⟩ := right_facts hr
  obtain ⟨⟨q7, q8⟩, q9, q10⟩ := qq hv
  have e : bA h = numBytes (64 + (20 + h.no) / 4) 1 1 ++ (numBytes h.tos.toNat 1 1 ++ (numBytes (20 + h.no + h.nd) 2 2 ++ (numBytes h.id.toNat 2 2 ++ (numBytes (if h.df then 16384 else 0) 2 2 ++ (numBytes h.ttl.toNat 1 1 ++ numBytes h.p.toNat 1 1))))) := by
    unfold bA fourF fldB; simp
  have hd : dz = (((if h.df then 16384 else 0) : Nat) : Int) := by rw [hdz]; cases h.df <;> rfl
  have e1 : (64 : Int) + (q : Int) = ((64 + (20 + h.no) / 4 : Nat) : Int) := by rw [hq, hS]; omega
  have e2 : (S : Int) + (nd : Int) = ((20 + h.no + h.nd : Nat) : Int) := by rw [hS, hnd]; omega
  rw [e, e1, e2, hd, b8_natJ, b8_of q5, b8_d256, b8_natJ, b8_hi q7, b8_of q7, b8_d256, b8_natJ, b8_of q3, b8_of q1]
  simp only [numI1, numI2, List.cons_append, List.nil_append]
/-- the document's list of a packet of four, ahead of its sum. -/
def doc4 (h : Ip) (O sB dB : List UInt8) (q S nd : Nat) (dz : Int) : List UInt8 := [b8 (64 + (q : Int)), b8 h.tos] ++ [b8 (((S : Int) + (nd : Int)) / 256), b8 ((S : Int) + (nd : Int))] ++ [b8 (h.id / 256), b8 h.id] ++ [b8 (dz / 256), b8 dz] ++ [b8 h.ttl, b8 h.p, 0, 0] ++ sB ++ dB ++ O
theorem doc4_parts {h : Ip} {O sB dB : List UInt8} {q S nd : Nat} {dz : Int} (he : pktE h = 0) (hv : h.v = false) (hq : q = S / 4) (hS : S = 20 + h.no) (hnd : nd = h.nd) (hdz : dz = if h.df then 16384 else 0) (hs : sB = h.sb.take 4) (hd : dB = h.db.take 4) :
    doc4 h O sB dB q S nd dz = bA h ++ ([0, 0] ++ bR h O) := by
  rw [← bA_doc he hv hq hS hnd hdz]
  unfold doc4 bR
  rw [hs, hd]
  simp only [List.append_assoc, List.cons_append, List.nil_append]
theorem doc4_head {h : Ip} {O sB dB : List UInt8} {q S nd : Nat} {dz : Int} (he : pktE h = 0) (hv : h.v = false) (hq : q = S / 4) (hS : S = 20 + h.no) (hnd : nd = h.nd) (hdz : dz = if h.df then 16384 else 0) (hs : sB = h.sb.take 4) (hd : dB = h.db.take 4) :
    headS (doc4 h O sB dB q S nd dz) = smH h O := by
  rw [doc4_parts he hv hq hS hnd hdz hs hd]
  exact headS_parts _ _ _ (len_bA h) rfl
theorem doc4_all {h : Ip} {O D sB dB : List UInt8} {q S nd : Nat} {dz N : Int} (he : pktE h = 0) (hv : h.v = false) (hq : q = S / 4) (hS : S = 20 + h.no) (hnd : nd = h.nd) (hdz : dz = if h.df then 16384 else 0) (hs : sB = h.sb.take 4) (hd : dB = h.db.take 4) (ls : h.sb.length = 16) (ld : h.db.length = 16) (hO : O.length = h.no) (hD : D.length = h.nd)
    (hN : N = ((headS (doc4 h O sB dB q S nd dz) : Nat) : Int)) : ((doc4 h O sB dB q S nd dz).set 10 (b8 (N / 256))).set 11 (b8 N) ++ D = pktB h O D := by
  rw [doc4_head he hv hq hS hnd hdz hs hd] at hN
  rw [pkt4_eq he hv ls ld hO hD, doc4_parts he hv hq hS hnd hdz hs hd, set_twoJ _ _ _ _ _ _ (len_bA h), hN, b8_d256, b8_natJ]
  unfold hd4
  rw [numI2]
/-- the document's list of a packet of six. -/
theorem doc6_all {h : Ip} {O D : List UInt8} {T L nd : Nat} {u0 u1 : UInt8} (he : pktE h = 0) (hv : h.v = true) (ls : h.sb.length = 16) (ld : h.db.length = 16) (hD : D.length = h.nd) (hT : h.tos = (T : Int)) (hL : h.lab = (L : Int)) (hnd : nd = h.nd)
    (h0 : u0 = UInt8.ofNat (96 + T / 16)) (h1 : u1 = UInt8.ofNat (T * 16 + L / 65536)) :
    [u0, u1] ++ [b8 (h.lab / 256), b8 h.lab] ++ [b8 ((nd : Int) / 256), b8 (nd : Int)] ++ [b8 h.p, b8 h.ttl] ++ h.sb ++ h.db ++ D = pktB h O D := by
  obtain ⟨hr, hs⟩ := pktE_zero he
  obtain ⟨⟨q1, q2⟩, ⟨q3, q4⟩, ⟨q5, q6⟩, qq, -⟩ := right_facts hr
  obtain ⟨q7, q8⟩ := qq hv
  rw [pkt6_eq he hv ls ld hD, hd6_parts, numI4, numI2, numI1, numI1, b8_of q1, b8_of q3, b8_d256, b8_natJ, hL, b8_d256, b8_natJ, hT, h0, h1, ← hnd]
  have e1 : UInt8.ofNat ((1610612736 + (T : Int).toNat * 1048576 + (L : Int).toNat) / 16777216) = UInt8.ofNat (96 + T / 16) := ofNat_eq (by omega)
  have e2 : UInt8.ofNat ((1610612736 + (T : Int).toNat * 1048576 + (L : Int).toNat) / 65536) = UInt8.ofNat (T * 16 + L / 65536) := ofNat_eq (by omega)
  have e3 : UInt8.ofNat ((1610612736 + (T : Int).toNat * 1048576 + (L : Int).toNat) / 256) = UInt8.ofNat (L / 256) := ofNat_eq (by omega)
  have e4 : UInt8.ofNat (1610612736 + (T : Int).toNat * 1048576 + (L : Int).toNat) = UInt8.ofNat L := ofNat_eq (by omega)
  rw [e1, e2, e3, e4]
  simp only [List.append_assoc, List.cons_append, List.nil_append]
end Go.Proofs.YtihakjcccbionaaGreatDoor

end
section
/-
  A packet's bytes read again are the packet.
-/
namespace Go.Proofs.YtihakjcccbionaaGreatDoor
open Go.RowKit
set_option linter.unusedVariables false
set_option linter.unusedSimpArgs false

theorem pad_four {l : List UInt8} (hl : l.length = 16) (h : rightL false l = true) : pad16 (l.take 4) = l := by
  have h' : maskL l 32 = l := by
    unfold rightL at h
    rw [Bool.false_or, beq_iff_eq] at h
    exact h.symm
  have h0 := (right_four l hl).1 h'
  unfold pad16
  apply List.ext_getElem
  · simp [hl]
  · intro i h1 h2
    by_cases h4 : i < 4
    · rw [List.getElem_append_left (by simp [hl]; omega), List.getElem_take]
    · rw [List.getElem_append_right (by simp [hl]; omega), List.getElem_replicate]
      exact (h0 i h2 (by omega)).symm
theorem pad_full {l : List UInt8} (hl : l.length = 16) : pad16 l = l := by
  unfold pad16
  rw [hl]; simp
theorem right_parts {h : Ip} (hr : rightH h = true) : rightL h.sv h.sb = true ∧ h.sv = h.v ∧ rightL h.dv h.db = true ∧ h.dv = h.v ∧ (h.v = false → h.lab = 0) ∧ (h.v = true → h.id = 0 ∧ h.df = false ∧ h.no = 0) := by
  unfold rightH at hr
  revert hr
  cases rightL h.sv h.sb <;> cases rightL h.dv h.db <;> cases hv : h.v <;> cases h.sv <;> cases h.dv <;> simp <;> intros <;> simp [*]
theorem hd4_src {h : Ip} {O T : List UInt8} (ls : h.sb.length = 16) (ld : h.db.length = 16) : ((hd4 h O ++ T).drop 12).take 4 = h.sb.take 4 ∧ ((hd4 h O ++ T).drop 16).take 4 = h.db.take 4 ∧ (hd4 h O ++ T).drop 20 = O ++ T := by
  have hA := len_bA h
  have l4 : (h.sb.take 4).length = 4 := by simp [ls]
  have l5 : (h.db.take 4).length = 4 := by simp [ld]
  have e : hd4 h O ++ T = (bA h ++ numBytes (smH h O) 2 2) ++ (h.sb.take 4 ++ (h.db.take 4 ++ (O ++ T))) := by unfold hd4 bR; simp
  have l12 : (bA h ++ numBytes (smH h O) 2 2).length = 12 := by simp [hA, length_numBytes]
  have l16 : ((bA h ++ numBytes (smH h O) 2 2) ++ h.sb.take 4).length = 16 := by rw [List.length_append, l12, l4]
  have l20 : (((bA h ++ numBytes (smH h O) 2 2) ++ h.sb.take 4) ++ h.db.take 4).length = 20 := by rw [List.length_append, l16, l5]
  refine ⟨?_, ?_, ?_⟩
  · rw [e, List.drop_left' l12, List.take_left' l4]
  · rw [e, ← List.append_assoc, List.drop_left' l16, List.take_left' l5]
  · rw [e, ← List.append_assoc, ← List.append_assoc, List.drop_left' l20]
theorem hd6_src {h : Ip} {T : List UInt8} (ls : h.sb.length = 16) (ld : h.db.length = 16) : ((hd6 h ++ T).drop 8).take 16 = h.sb ∧ ((hd6 h ++ T).drop 24).take 16 = h.db ∧ (hd6 h ++ T).drop 40 = T := by
  have hA := len_six8 h
  have e : hd6 h ++ T = fldB (sixF h) ++ (h.sb ++ (h.db ++ T)) := by unfold hd6; simp
  have l24 : (fldB (sixF h) ++ h.sb).length = 24 := by rw [List.length_append, hA, ls]
  refine ⟨?_, ?_, ?_⟩
  · rw [e, List.drop_left' hA, List.take_left' ls]
  · rw [e, ← List.append_assoc, List.drop_left' l24, List.take_left' ld]
  · exact List.drop_left' (len_hd6 h ls ld)
theorem back4 {h : Ip} {O D : List UInt8} (he : pktE h = 0) (hv : h.v = false) (ls : h.sb.length = 16) (ld : h.db.length = 16) (hO : O.length = h.no) (hD : D.length = h.nd) (ao ad : Option Addr) (co cd : Nat) :
    p4H (pktB h O D) ao co ad cd = othH h ao co ad cd ∧ ((pktB h O D).drop 20).take (4 * (nmB (pktB h O D) 0 1 % 16) - 20) = O ∧ (pktB h O D).drop (4 * (nmB (pktB h O D) 0 1 % 16)) = D := by
  obtain ⟨hr, hs⟩ := pktE_zero he
  obtain ⟨⟨q1, q2⟩, ⟨q3, q4⟩, ⟨q5, q6⟩, -, qq⟩ := right_facts hr
  obtain ⟨⟨q7, q8⟩, q9, q10⟩ := qq hv
  obtain ⟨r1, r2, r3, r4, r5, -⟩ := right_parts hr
  have t5 := r5 hv
  clear r5
  rw [hv] at r2 r4
  rw [r2] at r1
  rw [r4] at r3
  have hlP := len_hd4 h O ls ld
  rw [pkt4_eq he hv ls ld hO hD]
  have F := four_of he hv (l := hd4 h O ++ D) (pre_app _ _ _ (by omega))
  obtain ⟨s1, s2, s3⟩ := hd4_src (O := O) (T := D) ls ld
  have e4 : 4 * ((64 + (20 + h.no) / 4) % 16) = 20 + h.no := by omega
  have eL : (hd4 h O ++ D).length - (20 + h.no) = h.nd := by rw [List.length_append, hlP, hO, hD]; omega
  have en : 20 + h.no - 20 = h.no := by omega
  refine ⟨?_, ?_, ?_⟩
  · unfold p4H othH
    rw [F.a, F.p, F.ttl, F.tos, F.id, F.df, e4, s1, s2, eL, en, pad_four ls r1, pad_four ld r3]
    obtain ⟨v, sv, sb, dv, db, p, ttl, tos, id, df, lab, a1, n1, c1, a2, n2, c2⟩ := h
    simp only at hv r2 r4 t5 q1 q3 q5 q7 ⊢
    subst hv r2 r4
    rw [t5]
    congr 1
    · omega
    · omega
    · omega
    · omega
    · cases df <;> simp
  · rw [F.a, e4, s3, en, List.take_left' hO]
  · rw [F.a, e4, List.drop_left' (by rw [hlP, hO])]
theorem back6 {h : Ip} {O D : List UInt8} (he : pktE h = 0) (hv : h.v = true) (ls : h.sb.length = 16) (ld : h.db.length = 16) (hD : D.length = h.nd) (ad : Option Addr) (cd : Nat) :
    p6H (pktB h O D) ad cd = othH h none 0 ad cd ∧ (pktB h O D).drop 40 = D := by
  obtain ⟨hr, hs⟩ := pktE_zero he
  obtain ⟨⟨q1, q2⟩, ⟨q3, q4⟩, ⟨q5, q6⟩, qq, -⟩ := right_facts hr
  obtain ⟨q7, q8⟩ := qq hv
  obtain ⟨r1, r2, r3, r4, -, r5⟩ := right_parts hr
  obtain ⟨t5, t6, t7⟩ := r5 hv
  clear r5
  rw [hv] at r2 r4
  have hlP := len_hd6 h ls ld
  rw [pkt6_eq he hv ls ld hD]
  have F := six_of he hv (l := hd6 h ++ D) (pre_app _ _ _ (by omega))
  obtain ⟨s1, s2, s3⟩ := hd6_src (T := D) ls ld
  have eL : (hd6 h ++ D).length - 40 = h.nd := by rw [List.length_append, hlP, hD]; omega
  refine ⟨?_, s3⟩
  unfold p6H othH
  rw [F.a, F.p, F.ttl, s1, s2, eL, pad_full ls, pad_full ld]
  obtain ⟨v, sv, sb, dv, db, p, ttl, tos, id, df, lab, a1, n1, c1, a2, n2, c2⟩ := h
  simp only at hv r2 r4 t5 t6 t7 q1 q3 q5 q7 q6 q8 ⊢
  subst hv r2 r4
  rw [t5, t6, t7]
  congr 1
  · omega
  · omega
  · omega
  · omega
theorem back_any {w w' : World} {X : Array Value} {h : Ip} {O D : List UInt8} (he : pktE h = 0) (ls : h.sb.length = 16) (ld : h.db.length = 16) (hO : O.length = h.no) (hD : D.length = h.nd) (hp : PktA w w' (pktB h O D) X) :
    ∃ ao co ad cd, IpV X (othH h ao co ad cd) ∧ Byt w' w'.heap.size ao O ∧ Byt w' w'.heap.size ad D := by
  have hlen := pk_len he ls ld hO hD
  have hne : pktB h O D ≠ [] := fun e => by
    rw [e] at hlen
    unfold sizeN at hlen
    split at hlen <;> simp at hlen <;> omega
  cases hv : h.v
  · have hlP := len_hd4 h O ls ld
    have h4 := first4 he hv (l := pktB h O D) (by rw [pkt4_eq he hv ls ld hO hD, pre_app _ _ _ (by omega)]) hne
    rcases hp with ⟨-, -, ao, co, ad, cd, hx, h1, h2⟩ | ⟨h6, -⟩
    · obtain ⟨b1, b2, b3⟩ := back4 he hv ls ld hO hD ao ad co cd
      rw [b1] at hx
      rw [b2] at h1
      rw [b3] at h2
      exact ⟨ao, co, ad, cd, hx, h1.1, h2.1⟩
    · omega
  · have hlP := len_hd6 h ls ld
    have h4 := first6 he hv (l := pktB h O D) (by rw [pkt6_eq he hv ls ld hD, pre_app _ _ _ (by omega)]) hne
    have hno := ((right_parts (pktE_zero he).1).2.2.2.2.2 hv).2.2
    have hOn : O = [] := List.eq_nil_of_length_eq_zero (by omega)
    rcases hp with ⟨h6, -⟩ | ⟨-, -, ad, cd, hx, h2⟩
    · omega
    · obtain ⟨b1, b3⟩ := back6 (O := O) he hv ls ld hD ad cd
      rw [b1] at hx
      rw [b3] at h2
      exact ⟨none, 0, ad, cd, hx, by rw [hOn]; exact Byt.nil _ _ _, h2.1⟩
end Go.Proofs.YtihakjcccbionaaGreatDoor

end
section
/-
  The walk of the document's Put: packets of four.
-/
namespace Go.Proofs.YtihakjcccbionaaGreatDoor
open Go.RowKit
attribute [local go_sem ↓] exec_span exec_put exec_build heap_alloc_new heap_old
attribute [local go_sem] spanQ_ptr spanC_some heap_of_drew heap_of_drewN rs_arr rs_ad rs_ip rs_rip putAt_ptr putOk_ptr oldOk_some World.setRow_alloc_new
set_option maxRecDepth 100000
set_option linter.unusedVariables false
set_option linter.unusedSimpArgs false

theorem OwnB.low {w : World} {base base' : Nat} {v : Value} {l : List UInt8} (h : OwnB w base v l) (hb : base' ≤ base) : OwnB w base' v l := by
  refine ⟨h.1, ?_⟩
  rcases h.2 with h0 | ⟨g, cap, cur, e, hg, hr⟩
  · exact .inl h0
  · exact .inr ⟨g, cap, cur, e, Nat.le_trans hb hg, hr⟩
theorem step_app_bytes {ops : Array Oper} {o : Oper} {a : Act} {w : World} {K' : Act → World → Prop} {Q : Exit → Act → World → Prop} {E : Prop} (hgd : o.guard = none) (s x : Operand)
    (ho : o.op = .call { callee := .builtin .append, args := #[s, x], argTypes := #[28, 28] }) (base : Nat) (v : Value) (l0 l : List UInt8) (B c : Nat) (A : Option Addr)
    (hs : a.eval s = v) (hx : a.eval x = .slice A l.length c) (hown : OwnB w base v l0) (hb : Byt w B A l) (hnil : A = none → c = 0) (hlen : l0.length + l.length ≤ 140737488355328) (hbase : base ≤ w.heap.size)
    (h : ∀ v' w', OwnB w' base v' (l0 ++ l) → w.grownBy w' v.ownBlock → (v'.ownBlock = v.ownBlock ∨ v'.ownBlock = some w.heap.size) → K' (a.put o.dst v') w') : if Region.wanted o (yielded ops a.tmps) = true then Oper.wp Tryz.prog o a w K' Q else E := by
  have hw : Region.wanted o (yielded ops a.tmps) = true := by simp [Region.wanted, hgd]
  rw [if_pos hw]
  obtain ⟨v', w', hr, h2, h3, h4⟩ := run_app_bytes w base o.type v l0 l B c A hown hb hnil hlen hbase
  unfold Oper.wp execOp
  simp only [ho, resolve, invoke, builtin, Sem.run_bind, Sem.run_pure, Result.andThen_ok, List.map_toArray, List.map_cons, List.map_nil, hs, hx, hr]
  exact h v' w' h2 h3 h4

set_option maxHeartbeats 4000000 in
theorem refput4_any (w : World) (X : Array Value) (h : Ip) (O D : List UInt8) (p : InP w X h O D) (hv : h.v = false) :
    Calls Tryz.prog 21 #[.agg X] w fun e w' => ∃ A c, e = .returned (.tuple #[.slice A (pktB h O D).length c, .int .i64 (pktE h)]) ∧ OwnB w' w.heap.size (.slice A (pktB h O D).length c) (pktB h O D) ∧ Below w.heap.size w w' := by
  obtain ⟨W, hW, h1, hz, hb⟩ := one_block w (.cells X 62)
  have hxs := p.x.size
  have hxr := p.x.x0
  have hno := Nat.le_trans p.om (show 140737488351232 ≤ 140737488355328 by decide)
  have KR := hide (fun (W1 : World) => refrightH_any W1 X h p.x hno)
  have KS := hide (fun (W1 : World) => refsizeH_any W1 X h p.x hno)
  have hkeep : ∀ W1 : World, Below W.heap.size W W1 → W1.heap[w.heap.size]? = some (.cells X 62 (0, 0)) ∧ IpC W1 w.heap.size h := fun W1 hb1 => by
    have hh := (hb1.block w.heap.size (by omega)).trans h1
    exact ⟨hh, p.x.cells hh⟩
  have HK := hide hkeep
  have HB := hide hb
  have HZ := hide hz
  have HP := hide p
  have HV : Hid (false = h.v) := hide hv.symm
  clear hv
  have aS : AdV (adL h.sv h.sb).toArray h.sv h.sb := AdV.mk' p.x.ls
  have aD : AdV (adL h.dv h.db).toArray h.dv h.db := AdV.mk' p.x.ld
  obtain ⟨SA, hSA⟩ : ∃ S, S = (adL h.sv h.sb).toArray := ⟨_, rfl⟩
  obtain ⟨DA, hDA⟩ : ∃ S, S = (adL h.dv h.db).toArray := ⟨_, rfl⟩
  have hsrc := p.x.src
  have hdst := p.x.dst
  rw [← hSA] at hsrc aS
  rw [← hDA] at hdst aD
  have KA := hide (fun (W1 : World) => refbytes_any W1 SA h.sv h.sb aS)
  have KB := hide (fun (W1 : World) => refbytes_any W1 DA h.dv h.db aD)
  obtain ⟨sB, hsB⟩ : ∃ l, l = byB h.sv h.sb := ⟨_, rfl⟩
  obtain ⟨dB, hdB⟩ : ∃ l, l = byB h.dv h.db := ⟨_, rfl⟩
  rw [← hsB] at KA
  rw [← hdB] at KB
  have HsB := hide hsB
  have HdB := hide hdB
  clear hSA hDA aS aD hsB hdB
  obtain ⟨S, hS⟩ : ∃ S, S = sizeN h := ⟨_, rfl⟩
  obtain ⟨R, hR⟩ : ∃ R, R = rightH h := ⟨_, rfl⟩
  simp only [sizeH_nat] at KS
  rw [← hS] at KS
  rw [← hR] at KR
  have HS := hide hS
  have HR := hide hR
  have hSb : S ≤ 140737488355400 := by rw [hS]; unfold sizeN; split <;> omega
  have hndb := p.dm
  obtain ⟨nd, hnd⟩ : ∃ n, n = h.nd := ⟨_, rfl⟩
  rw [← hnd] at hndb
  have HND := hide hnd
  clear hS hR hkeep hb p hnd hno hz
  cases R
  · have hE : Hid (pktE h = 1) := hide (by unfold pktE; rw [← HR.out]; rfl)
    have hBB : Hid (pktB h O D = []) := hide (by unfold pktB; rw [hE.out]; rfl)
    rw [hE.out, hBB.out]
    go_enter Tryz.func21, Tryz.ntmps21
    go_wp2_with fail
    refine (KR.out W).mono ?_
    rintro e w1 ⟨rfl, b1⟩
    have B1 := hide b1
    clear b1
    dsimp only
    go_wp2
    go_ret2
    exact ⟨none, 0, rfl, OwnB.nil _ _, HB.out.trans (B1.out.mono HB.out.size)⟩
  · go_enter Tryz.func21, Tryz.ntmps21
    go_wp2_with fail
    refine (KR.out W).mono ?_
    rintro e w1 ⟨rfl, b1⟩
    have B1 := hide b1
    obtain ⟨r1, c0, c1, c18, c35, c36, c37, c38, c39, c40, c41, c42⟩ := HK.out w1 b1
    rw [← HND.out] at c42
    clear b1
    dsimp only
    have hw1 : IntKind.i64.wrap (65535 - (S : Int)) = 65535 - (S : Int) := IntWalk.i64_in _ (by omega)
    go_wp2_with fail
    go_region_held3 (fun w' => w'.heap[w.heap.size]? = some (.cells X 62 (0, 0)) ∧ w'.cell? ⟨w.heap.size, 42, none⟩ = some (.slice h.ad nd h.cd))
      (first
        | exact ⟨r1, c42⟩
        | exact ⟨r2, d42⟩
        | fail)
      (first
        | (go_at_call 46; (with_reducible refine (KS.out w1.drew).mono ?_); rintro e w2 ⟨rfl, b2⟩; have B2 : Hid (Below W.heap.size W w2) := hide (B1.out.drew.trans (b2.mono B1.out.drew.size)); obtain ⟨r2, d0, d1, d18, d35, d36, d37, d38, d39, d40, d41, d42⟩ := HK.out w2 B2.out; rw [← HND.out] at d42; clear b2)
        | fail)
    all_goals (
      by_cases hbig : 65535 - (S : Int) < (nd : Int)
      · have hE : Hid (pktE h = 3) := hide (by unfold pktE; rw [← HR.out, if_pos rfl, ← HS.out, ← HND.out, if_pos (by omega)])
        have hBB : Hid (pktB h O D = []) := hide (by unfold pktB; rw [hE.out]; rfl)
        go_wp2
        go_ret2
        rw [hE.out, hBB.out]
        exact ⟨none, 0, rfl, OwnB.nil _ _, HB.out.trans (B2.out.mono HB.out.size)⟩
      · have hE : Hid (pktE h = 0) := hide (by unfold pktE; rw [← HR.out, if_pos rfl, ← HS.out, ← HND.out, if_neg (by omega)])
        go_wp2_with fail
        refine (KA.out w2).mono ?_
        rintro e w3 ⟨⟨aA, aC, rfl, ay, al, an⟩, b3⟩
        have B3 : Hid (Below W.heap.size W w3) := hide (B2.out.trans (b3.mono B2.out.size))
        obtain ⟨r3, e0, e1, e18, e35, e36, e37, e38, e39, e40, e41, e42⟩ := HK.out w3 B3.out
        have HAy := hide ay
        have HAl := hide al
        have HAn := hide an
        clear b3 ay al an
        dsimp only
        go_wp2_with fail
        refine (KB.out w3).mono ?_
        rintro e w4 ⟨⟨dA, dC, rfl, dy, dl, dn⟩, b4⟩
        have B4 : Hid (Below W.heap.size W w4) := hide (B3.out.trans (b4.mono B3.out.size))
        have HAy4 : Hid (Byt w4 w4.heap.size aA sB) := hide ((HAy.out.below b4).more b4.size)
        have HDy := hide dy
        have HDl := hide dl
        have HDn := hide dn
        obtain ⟨r4, f0, f1, f18, f35, f36, f37, f38, f39, f40, f41, f42⟩ := HK.out w4 B4.out
        clear b4 dy dl dn HAy r1 c0 c1 c18 c35 c36 c37 c38 c39 c40 c41 c42 r2 d0 d1 d18 d35 d36 d37 d38 d39 d40 d41 d42 r3 e0 e1 e18 e35 e36 e37 e38 e39 e40 e41 e42
        dsimp only
        rw [← HV.out] at f0
        have hS20 : S = 20 + h.no := by rw [HS.out]; unfold sizeN; rw [← HV.out]; rfl
        have hrf := (right_facts HR.out.symm).2.2.2.2 HV.out.symm
        have hS60 : S ≤ 60 := by omega
        obtain ⟨q, hq⟩ : ∃ q : Nat, q = S / 4 := ⟨_, rfl⟩
        have hqi : (S : Int) / 4 = (q : Int) := by omega
        have hor := or64 (q := q) (by omega)
        have hwq : IntKind.i64.wrap (q : Int) = (q : Int) := IntWalk.i64_in _ (by omega)
        obtain ⟨u0, hu0⟩ : ∃ u, u = b8 (64 + (q : Int)) := ⟨_, rfl⟩
        obtain ⟨u1, hu1⟩ : ∃ u, u = b8 h.tos := ⟨_, rfl⟩
        have q0 := b8_eq (64 + (q : Int))
        have q1 := b8_eq h.tos
        rw [← hu0] at q0
        rw [← hu1] at q1
        have HU0 := hide hu0
        have HU1 := hide hu1
        have HQ := hide hq
        have HS20 := hide hS20
        have HRF := hide hrf
        have HS60 := hide hS60
        clear hu0 hu1 hq hS20 hrf hS60
        have r4d : w4.drew.heap[w.heap.size]? = some (.cells X 62 (0, 0)) := r4
        have f37d : w4.drew.cell? ⟨w.heap.size, 37, none⟩ = some (.int .i64 h.tos) := f37
        have hS0 : (0 : Int) ≤ (S : Int) := by omega
        go_wp2_with fail
        go_region_law (first
          | (go_simp; go_at_call 46; refine (KS.out w4.drew).mono ?_; rintro e w5 ⟨rfl, b5⟩
             have B5 : Hid (Below w4.heap.size w4 w5) := hide (below_undrew' b5)
             obtain ⟨r5, -, -, -, -, -, g37, -, -, -, -, -⟩ := HK.out w5 (B4.out.trans (B5.out.mono B4.out.size))
             have hz5 := hide B5.out.size
             clear b5)
          | (refine step_app_bytes rfl (.tmp 79) (.tmp 88) rfl w4.heap.size (.slice none 0 0) [] [u0, u1] (w5.heap.size + 1) 2 (some ⟨w5.heap.size, 0, none⟩) rfl rfl (OwnB.nil _ _) (by exact Byt.lit w5 [u0, u1] _ _ (0, 0) rfl) (fun e => by cases e) (by simp) (by have := hz5.out; simp; omega) ?_; intro v6 w6 hown6 hgr6 hat6; dsimp only [Act.put])
          | fail)
        all_goals (
          have C6 : Hid (Below w4.heap.size w4 w6) := hide ((B5.out.alloc B5.out.size _).grown hgr6 (by have := hz5.out; simp; omega) (fun k hk => by simp [Value.ownBlock] at hk))
          have O6 : Hid (OwnB w6 w4.heap.size v6 [u0, u1]) := hide hown6
          have HK4 := hide (fun (W1 : World) (b : Below w4.heap.size w4 W1) => HK.out W1 (B4.out.trans (b.mono B4.out.size)))
          obtain ⟨r6, g0, g1, g18, g35, g36, g37', g38, g39, g40, g41, g42⟩ := HK4.out w6 C6.out
          rw [← HND.out] at g42
          have hbig' : (S : Int) + (nd : Int) ≤ 65535 := by omega
          have hws : IntKind.i64.wrap ((S : Int) + (nd : Int)) = (S : Int) + (nd : Int) := IntWalk.i64_in _ (by omega)
          clear hown6 hgr6 hat6 r5 g37 r4 r4d f37d f0 f1 f18 f35 f36 f37 f38 f39 f40 f41 f42
          go_wp2_with fail
          go_region_held3 (fun w' => w'.heap[w.heap.size]? = some (.cells X 62 (0, 0)) ∧ w'.cell? ⟨w.heap.size, 42, none⟩ = some (.slice h.ad nd h.cd))
            (first
              | exact ⟨r6, g42⟩
              | exact ⟨r7, k42⟩
              | exact ⟨r8, m42⟩
              | fail)
            (first
              | (go_at_call 46; (with_reducible refine (KS.out w6.drew).mono ?_); rintro e w7 ⟨rfl, b7⟩; have C7 : Hid (Below w4.heap.size w4 w7) := hide (C6.out.drew.trans (b7.mono C6.out.drew.size)); have O7 : Hid (OwnB w7 w4.heap.size v6 [u0, u1]) := hide (World.ownsRow.kept O6.out (below_row (below_undrew' b7) none) (Classical.em _)); obtain ⟨r7, k0, k1, k18, k35, k36, k37, k38, k39, k40, k41, k42⟩ := HK4.out w7 C7.out; rw [← HND.out] at k42; clear b7)
              | (go_at_call 48; (with_reducible refine (put2_any w7 w4.heap.size v6 [u0, u1] ((S : Int) + (nd : Int)) O7.out C7.out.size (by simp)).mono ?_); rintro e w8 ⟨v8, rfl, O8, b8⟩; have C8 : Hid (Below w4.heap.size w4 w8) := hide (C7.out.trans b8); have HO8 := hide O8; obtain ⟨r8, m0, m1, m18, m35, m36, m37, m38, m39, m40, m41, m42⟩ := HK4.out w8 C8.out; rw [← HND.out] at m42; clear b8 O8)
              | fail)
          all_goals (
            obtain ⟨t1, ht1⟩ : ∃ u, u = b8 (((S : Int) + (nd : Int)) / 256) := ⟨_, rfl⟩
            obtain ⟨t2, ht2⟩ : ∃ u, u = b8 ((S : Int) + (nd : Int)) := ⟨_, rfl⟩
            rw [← ht1, ← ht2] at HO8
            have HT1 := hide ht1
            have HT2 := hide ht2
            obtain ⟨dz, hdz⟩ : ∃ z : Int, z = if h.df then 16384 else 0 := ⟨_, rfl⟩
            obtain ⟨dfv, hdf⟩ : ∃ d, d = h.df := ⟨_, rfl⟩
            rw [← hdf] at m39
            have hdd : (dfv = false ∧ dz = 0) ∨ (dfv = true ∧ dz = 16384) := by
              rw [hdz, hdf]; cases h.df <;> simp
            have HDZ := hide hdz
            have HDF := hide hdf
            clear ht1 ht2 hdz hdf r6 g0 g1 g18 g35 g36 g37' g38 g39 g40 g41 g42 r7 k0 k1 k18 k35 k36 k37 k38 k39 k40 k41 k42
            go_wp2_with fail
            refine (put2_any w8 w4.heap.size v8 _ h.id HO8.out C8.out.size (by simp)).mono ?_
            rintro e w9 ⟨v9, rfl, O9, b9⟩
            have C9 : Hid (Below w4.heap.size w4 w9) := hide (C8.out.trans b9)
            have HO9 := hide O9
            obtain ⟨r9, n0, n1, n18, n35, n36, n37, n38, n39, n40, n41, n42⟩ := HK4.out w9 C9.out
            have n39' : w9.cell? ⟨w.heap.size, 39, none⟩ = some (.bool dfv) := by
              rw [HDF.out]; exact n39
            clear b9 O9 m0 m1 m18 m35 m36 m37 m38 m39 m40 m41 m42 r8 n39
            dsimp only
            obtain ⟨u3, hu3⟩ : ∃ u, u = b8 h.ttl := ⟨_, rfl⟩
            obtain ⟨u4, hu4⟩ : ∃ u, u = b8 h.p := ⟨_, rfl⟩
            have q3 := b8_eq h.ttl
            have q4 := b8_eq h.p
            rw [← hu3] at q3
            rw [← hu4] at q4
            have HU3 := hide hu3
            have HU4 := hide hu4
            clear hu3 hu4
            have hsB4 : sB = h.sb.take 4 := by
              have hr : rightL h.sv h.sb = true := by have := HR.out.symm; unfold rightH at this; revert this; cases rightL h.sv h.sb <;> simp
              have hsv : h.sv = false := by have := HR.out.symm; rw [HV.out]; unfold rightH at this; revert this; cases h.sv <;> cases h.v <;> simp
              rw [HsB.out]; unfold byB; rw [hr, hsv]; rfl
            have hdB4 : dB = h.db.take 4 := by
              have hr : rightL h.dv h.db = true := by have := HR.out.symm; unfold rightH at this; revert this; cases rightL h.dv h.db <;> simp
              have hsv : h.dv = false := by have := HR.out.symm; rw [HV.out]; unfold rightH at this; revert this; cases h.dv <;> cases h.v <;> simp
              rw [HdB.out]; unfold byB; rw [hr, hsv]; rfl
            have HSB4 := hide hsB4
            have HDB4 := hide hdB4
            have HSL : Hid (sB.length = 4) := hide (by rw [hsB4, List.length_take, HP.out.x.ls]; rfl)
            have HDL : Hid (dB.length = 4) := hide (by rw [hdB4, List.length_take, HP.out.x.ld]; rfl)
            clear hsB4 hdB4
            rcases hdd with ⟨rfl, rfl⟩ | ⟨rfl, rfl⟩
            all_goals (
              go_wp2_with fail
              refine (put2_any w9 w4.heap.size v9 _ _ HO9.out C9.out.size (by simp)).mono ?_
              rintro e w10 ⟨v10, rfl, O10, b10⟩
              have C10 : Hid (Below w4.heap.size w4 w10) := hide (C9.out.trans b10)
              have HO10 := hide O10
              have hz10 := hide C10.out.size
              obtain ⟨r10, c0, c1, c18, c35, c36, c37, c38, c39, c40, c41, c42⟩ := HK4.out w10 C10.out
              clear b10 O10 n0 n1 n18 n35 n36 n37 n38 n39' n40 n41 n42 r9
              dsimp only
              go_wp2_with (at_builtin; refine wpList_app_bytes rfl (.tmp 107) (.tmp 114) rfl w4.heap.size v10 _ [u3, u4, 0, 0] (w10.heap.size + 1) 4 (some ⟨w10.heap.size, 0, none⟩) rfl rfl (by exact HO10.out.alloc _) (by exact Byt.lit w10 [u3, u4, 0, 0] _ _ (0, 0) rfl) (fun e => by cases e) (by simp) (by have := hz10.out; simp; omega) ?_)
              intro v11 w11 hown11 hgr11 hat11
              have C11 : Hid (Below w4.heap.size w4 w11) := hide ((C10.out.alloc C10.out.size _).grown hgr11 (by have := hz10.out; simp; omega) (fun k hk => (World.ownsRow.lt HO10.out k hk).1))
              have HO11 := hide hown11
              have HAy11 := hide (HAy4.out.below C11.out)
              clear hown11 hgr11 hat11 c0 c1 c18 c35 c36 c37 c38 c39 c40 c41 c42 r10
              go_wp2_with (at_builtin; refine wpList_app_bytes rfl (.tmp 116) (.tmp 117) rfl w4.heap.size v11 _ sB w4.heap.size aC aA rfl rfl (by exact HO11.out) (by exact HAy11.out) HAn.out (by have := HSL.out; simp; omega) C11.out.size ?_)
              intro v12 w12 hown12 hgr12 hat12
              have C12 : Hid (Below w4.heap.size w4 w12) := hide (C11.out.grown hgr12 C11.out.size (fun k hk => (World.ownsRow.lt HO11.out k hk).1))
              have HO12 := hide hown12
              have HDy12 := hide (HDy.out.below C12.out)
              clear hown12 hgr12 hat12
              go_wp2_with (at_builtin; refine wpList_app_bytes rfl (.tmp 119) (.tmp 120) rfl w4.heap.size v12 _ dB w4.heap.size dC dA rfl rfl (by exact HO12.out) (by exact HDy12.out) HDn.out (by have := HSL.out; have := HDL.out; simp; omega) C12.out.size ?_)
              intro v13 w13 hown13 hgr13 hat13
              have C13 : Hid (Below w4.heap.size w4 w13) := hide (C12.out.grown hgr13 C12.out.size (fun k hk => (World.ownsRow.lt HO12.out k hk).1))
              have HO13 := hide hown13
              obtain ⟨r13, c0, c1, c18, c35, c36, c37, c38, c39, c40, c41, c42⟩ := HK4.out w13 C13.out
              rw [← HP.out.ol] at c41
              have hwW : Below w.heap.size w w13 := HB.out.trans ((B4.out.trans (C13.out.mono B4.out.size)).mono HB.out.size)
              have HO13' := hide (HP.out.o.below hwW)
              have HW13 := hide hwW
              clear hown13 hgr13 hat13 hwW c0 c1 c18 c35 c36 c37 c38 c39 c40 c42
              go_wp2_with (at_builtin; refine wpList_app_bytes rfl (.tmp 122) (.tmp 124) rfl w4.heap.size v13 _ O w.heap.size h.co h.ao rfl rfl (by exact HO13.out) (by exact HO13'.out) HP.out.on (by have := HSL.out; have := HDL.out; have := HRF.out; have := HP.out.ol; simp; omega) C13.out.size ?_)
              intro v14 w14 hown14 hgr14 hat14
              have C14 : Hid (Below w4.heap.size w4 w14) := hide (C13.out.grown hgr14 C13.out.size (fun k hk => (World.ownsRow.lt HO13.out k hk).1))
              have hdoc : ∃ dz : Int, (dz = if h.df then 16384 else 0) ∧ OwnB w14 w4.heap.size v14 (doc4 h O sB dB q S nd dz) := ⟨_, HDZ.out, by
                have e := hown14
                rw [HU0.out, HU1.out, HT1.out, HT2.out, HU3.out, HU4.out] at e
                unfold doc4
                simpa using e⟩
              obtain ⟨dz, hdz2, hdoc⟩ := hdoc
              obtain ⟨L, hLL⟩ : ∃ L, L = doc4 h O sB dB q S nd dz := ⟨_, rfl⟩
              have HDZ2 := hide hdz2
              have hown : OwnB w14 w4.heap.size v14 L := by rw [hLL]; exact hdoc
              have HLL := hide hLL
              have hLn : L.length = S := by
                rw [hLL]; unfold doc4
                have := HSL.out; have := HDL.out; have := HS20.out; have := HP.out.ol
                simp; omega
              clear hown14 hgr14 hat14 hLL hdoc hdz2
              obtain ⟨g, cap, hv14, hbg⟩ : ∃ g cap, v14 = .slice (some ⟨g, 0, none⟩) L.length cap ∧ w4.heap.size ≤ g := by
                rcases hown.2 with ⟨_, h0⟩ | ⟨g, cap, cur, e, hbg, -⟩
                · have := HS20.out; omega
                · exact ⟨g, cap, e, hbg⟩
              subst hv14
              obtain ⟨A', c', hv', hlc, hby, -, -⟩ := hown.shape
              cases hv'
              have hL20 : 20 ≤ L.length := by have := HS20.out; omega
              have hL60 : L.length ≤ 60 := by have := HS60.out; omega
              have KO := own_any w14 (some ⟨g, 0, none⟩) cap L (by omega) (by omega) hby (fun e => by cases e)
              obtain ⟨Ni, hNi⟩ : ∃ z : Int, z = ((headS L : Nat) : Int) := ⟨_, rfl⟩
              rw [← hNi] at KO
              have HKO := hide KO
              have HNI := hide hNi
              have HOWN := hide hown
              obtain ⟨x10, hx10⟩ : ∃ u, u = b8 (Ni / 256) := ⟨_, rfl⟩
              obtain ⟨x11, hx11⟩ : ∃ u, u = b8 Ni := ⟨_, rfl⟩
              have e10 := b8_eq (Ni / 256)
              have e11 := b8_eq Ni
              rw [← hx10] at e10
              rw [← hx11] at e11
              have HX10 := hide hx10
              have HX11 := hide hx11
              have HLN := hide hLn
              have HL20 := hide hL20
              have HL60 := hide hL60
              have HBG := hide hbg
              have hl10 : (10 : Int) < (L.length : Int) := by omega
              have hl11 : (11 : Int) < (L.length : Int) := by omega
              clear KO hNi hown hby hlc hx10 hx11 hLn hL20 hL60 hbg
              go_wp2_with fail
              refine HKO.out.mono ?_
              rintro e w15 ⟨rfl, b15⟩
              have C15 : Below w4.heap.size w4 w15 := C14.out.trans (b15.mono C14.out.size)
              have hO15 : OwnB w15 w4.heap.size (.slice (some ⟨g, 0, none⟩) L.length cap) L := World.ownsRow.kept HOWN.out (below_row b15 none) (Classical.em _)
              have f10 := hO15.frozenAt 10
              have hc10 : ∃ u, w15.cell? ⟨g, 10, none⟩ = some u := ⟨_, (hO15.cellAt 10 (by omega)).trans (List.getElem?_eq_getElem (by simp; omega))⟩
              obtain ⟨u10, c10⟩ := hc10
              have ho2 := hO15.put 10 (by omega) x10
              have g2 := (World.ownsRow.stored hO15 10 (.int .u8 (x10.toNat : Int))).2
              obtain ⟨w16, hw16⟩ : ∃ w', w15.setCell ⟨g, 10, none⟩ (.int .u8 (x10.toNat : Int)) = w' := ⟨_, rfl⟩
              have ho2' : OwnB w16 w4.heap.size (.slice (some ⟨g, 0, none⟩) (L.set 10 x10).length cap) (L.set 10 x10) := by rw [← hw16, List.length_set]; exact ho2
              rw [hw16] at g2
              have f11 := ho2'.frozenAt 11
              have hc11 : ∃ u, w16.cell? ⟨g, 11, none⟩ = some u := ⟨_, (ho2'.cellAt 11 (by simp; omega)).trans (List.getElem?_eq_getElem (by simp; omega))⟩
              obtain ⟨u11, c11⟩ := hc11
              have ho3 := ho2'.put 11 (by simp; omega) x11
              have g3 := (World.ownsRow.stored ho2' 11 (.int .u8 (x11.toNat : Int))).2
              obtain ⟨w17, hw17⟩ : ∃ w', w16.setCell ⟨g, 11, none⟩ (.int .u8 (x11.toNat : Int)) = w' := ⟨_, rfl⟩
              have ho3' : OwnB w17 w4.heap.size (.slice (some ⟨g, 0, none⟩) L.length cap) ((L.set 10 x10).set 11 x11) := by rw [← hw17]; rw [List.length_set] at ho3; exact ho3
              rw [hw17] at g3
              have C16 : Below w4.heap.size w4 w16 := C15.grown g2 C15.size (fun k hk => by cases hk; exact HBG.out)
              have C17 : Below w4.heap.size w4 w17 := C16.grown g3 C16.size (fun k hk => by cases hk; exact HBG.out)
              obtain ⟨r17, c0, c1, c18, c35, c36, c37, c38, c39, c40, c41, c42⟩ := HK4.out w17 C17
              rw [← HP.out.dl] at c42
              have hwW : Below w.heap.size w w17 := HB.out.trans ((B4.out.trans (C17.mono B4.out.size)).mono HB.out.size)
              have HDD := hide (HP.out.d.below hwW)
              have HW17 := hide hwW
              have HO17 := hide ho3'
              have HC17 := hide C17.size
              have HCC17 := hide C17
              have hfin : (L.set 10 x10).set 11 x11 ++ D = pktB h O D := by
                rw [HX10.out, HX11.out, HLL.out]
                exact doc4_all hE.out HV.out.symm HQ.out HS20.out HND.out HDZ2.out HSB4.out HDB4.out HP.out.x.ls HP.out.x.ld HP.out.ol HP.out.dl (by rw [← HLL.out]; exact HNI.out)
              have HFIN := hide hfin
              have hLen : ((L.set 10 x10).set 11 x11).length = L.length := by simp
              have HLEN := hide hLen
              clear hfin hLen ho2 ho2' ho3 ho3' g2 g3 hO15 C15 C16 C17 hwW b15 c0 c1 c18 c35 c36 c37 c38 c39 c40 c41
              dsimp only
              go_wp2_with (at_builtin; refine wpList_app_bytes rfl (.tmp 137) (.tmp 139) rfl w4.heap.size (.slice (some ⟨g, 0, none⟩) L.length cap) ((L.set 10 x10).set 11 x11) D w.heap.size h.cd h.ad rfl rfl (by exact HO17.out) (by exact HDD.out) HP.out.dn (by have := HLEN.out; have := HL60.out; have := HP.out.dl; have := HP.out.dm; omega) HC17.out ?_)
              intro v18 w18 hown18 hgr18 hat18
              have C18 : Hid (Below w4.heap.size w4 w18) := hide (HCC17.out.grown hgr18 HC17.out (fun k hk => (World.ownsRow.lt HO17.out k hk).1))
              have HO18 : Hid (OwnB w18 w4.heap.size v18 (pktB h O D)) := hide (by rw [← HFIN.out]; exact hown18)
              clear hown18 hgr18 hat18
              go_wp2
              go_ret2
              rw [hE.out]
              have hb4 : w.heap.size ≤ w4.heap.size := by have := HB.out.size; have := B4.out.size; omega
              obtain ⟨A, c, e, -⟩ := HO18.out.shape
              exact ⟨A, c, by subst e; rfl, by rw [← e]; exact HO18.out.low hb4, HB.out.trans ((B4.out.trans (C18.out.mono B4.out.size)).mono HB.out.size)⟩))))
end Go.Proofs.YtihakjcccbionaaGreatDoor

end
section
/-
  The walk of the document's Put: packets of six, and all.
-/
namespace Go.Proofs.YtihakjcccbionaaGreatDoor
open Go.RowKit
attribute [local go_sem ↓] exec_span exec_put exec_build heap_alloc_new heap_old
attribute [local go_sem] spanQ_ptr spanC_some heap_of_drew heap_of_drewN rs_arr rs_ad rs_ip rs_rip putAt_ptr putOk_ptr oldOk_some World.setRow_alloc_new
set_option maxRecDepth 100000
set_option linter.unusedVariables false
set_option linter.unusedSimpArgs false

theorem or96 : ∀ {q : Nat}, q < 16 → bits BinOp.or IntKind.i64 96 (q : Int) = 96 + (q : Int) := by decide
set_option maxHeartbeats 4000000 in
theorem refput6_any (w : World) (X : Array Value) (h : Ip) (O D : List UInt8) (p : InP w X h O D) (hv : h.v = true) :
    Calls Tryz.prog 21 #[.agg X] w fun e w' => ∃ A c, e = .returned (.tuple #[.slice A (pktB h O D).length c, .int .i64 (pktE h)]) ∧ OwnB w' w.heap.size (.slice A (pktB h O D).length c) (pktB h O D) ∧ Below w.heap.size w w' := by
  obtain ⟨W, hW, h1, hz, hb⟩ := one_block w (.cells X 62)
  have hxs := p.x.size
  have hxr := p.x.x0
  have hno := Nat.le_trans p.om (show 140737488351232 ≤ 140737488355328 by decide)
  have KR := hide (fun (W1 : World) => refrightH_any W1 X h p.x hno)
  have KS := hide (fun (W1 : World) => refsizeH_any W1 X h p.x hno)
  have hkeep : ∀ W1 : World, Below W.heap.size W W1 → W1.heap[w.heap.size]? = some (.cells X 62 (0, 0)) ∧ IpC W1 w.heap.size h := fun W1 hb1 => by
    have hh := (hb1.block w.heap.size (by omega)).trans h1
    exact ⟨hh, p.x.cells hh⟩
  have HK := hide hkeep
  have HB := hide hb
  have HZ := hide hz
  have HP := hide p
  have HV : Hid (true = h.v) := hide hv.symm
  clear hv
  have aS : AdV (adL h.sv h.sb).toArray h.sv h.sb := AdV.mk' p.x.ls
  have aD : AdV (adL h.dv h.db).toArray h.dv h.db := AdV.mk' p.x.ld
  obtain ⟨SA, hSA⟩ : ∃ S, S = (adL h.sv h.sb).toArray := ⟨_, rfl⟩
  obtain ⟨DA, hDA⟩ : ∃ S, S = (adL h.dv h.db).toArray := ⟨_, rfl⟩
  have hsrc := p.x.src
  have hdst := p.x.dst
  rw [← hSA] at hsrc aS
  rw [← hDA] at hdst aD
  have KA := hide (fun (W1 : World) => refbytes_any W1 SA h.sv h.sb aS)
  have KB := hide (fun (W1 : World) => refbytes_any W1 DA h.dv h.db aD)
  obtain ⟨sB, hsB⟩ : ∃ l, l = byB h.sv h.sb := ⟨_, rfl⟩
  obtain ⟨dB, hdB⟩ : ∃ l, l = byB h.dv h.db := ⟨_, rfl⟩
  rw [← hsB] at KA
  rw [← hdB] at KB
  have HsB := hide hsB
  have HdB := hide hdB
  clear hSA hDA aS aD hsB hdB
  obtain ⟨S, hS⟩ : ∃ S, S = sizeN h := ⟨_, rfl⟩
  obtain ⟨R, hR⟩ : ∃ R, R = rightH h := ⟨_, rfl⟩
  simp only [sizeH_nat] at KS
  rw [← hS] at KS
  rw [← hR] at KR
  have HS := hide hS
  have HR := hide hR
  have hSb : S ≤ 140737488355400 := by rw [hS]; unfold sizeN; split <;> omega
  have hndb := p.dm
  obtain ⟨nd, hnd⟩ : ∃ n, n = h.nd := ⟨_, rfl⟩
  rw [← hnd] at hndb
  have HND := hide hnd
  clear hS hR hkeep hb p hnd hno hz
  cases R
  · have hE : Hid (pktE h = 1) := hide (by unfold pktE; rw [← HR.out]; rfl)
    have hBB : Hid (pktB h O D = []) := hide (by unfold pktB; rw [hE.out]; rfl)
    rw [hE.out, hBB.out]
    go_enter Tryz.func21, Tryz.ntmps21
    go_wp2_with fail
    refine (KR.out W).mono ?_
    rintro e w1 ⟨rfl, b1⟩
    have B1 := hide b1
    clear b1
    dsimp only
    go_wp2
    go_ret2
    exact ⟨none, 0, rfl, OwnB.nil _ _, HB.out.trans (B1.out.mono HB.out.size)⟩
  · go_enter Tryz.func21, Tryz.ntmps21
    go_wp2_with fail
    refine (KR.out W).mono ?_
    rintro e w1 ⟨rfl, b1⟩
    have B1 := hide b1
    obtain ⟨r1, c0, c1, c18, c35, c36, c37, c38, c39, c40, c41, c42⟩ := HK.out w1 b1
    rw [← HND.out] at c42
    clear b1
    dsimp only
    have hw1 : IntKind.i64.wrap (65535 - (S : Int)) = 65535 - (S : Int) := IntWalk.i64_in _ (by omega)
    go_wp2_with fail
    go_region_held3 (fun w' => w'.heap[w.heap.size]? = some (.cells X 62 (0, 0)) ∧ w'.cell? ⟨w.heap.size, 42, none⟩ = some (.slice h.ad nd h.cd))
      (first
        | exact ⟨r1, c42⟩
        | exact ⟨r2, d42⟩
        | fail)
      (first
        | (go_at_call 46; (with_reducible refine (KS.out w1.drew).mono ?_); rintro e w2 ⟨rfl, b2⟩; have B2 : Hid (Below W.heap.size W w2) := hide (B1.out.drew.trans (b2.mono B1.out.drew.size)); obtain ⟨r2, d0, d1, d18, d35, d36, d37, d38, d39, d40, d41, d42⟩ := HK.out w2 B2.out; rw [← HND.out] at d42; clear b2)
        | fail)
    all_goals (
      by_cases hbig : 65535 - (S : Int) < (nd : Int)
      · have hE : Hid (pktE h = 3) := hide (by unfold pktE; rw [← HR.out, if_pos rfl, ← HS.out, ← HND.out, if_pos (by omega)])
        have hBB : Hid (pktB h O D = []) := hide (by unfold pktB; rw [hE.out]; rfl)
        go_wp2
        go_ret2
        rw [hE.out, hBB.out]
        exact ⟨none, 0, rfl, OwnB.nil _ _, HB.out.trans (B2.out.mono HB.out.size)⟩
      · have hE : Hid (pktE h = 0) := hide (by unfold pktE; rw [← HR.out, if_pos rfl, ← HS.out, ← HND.out, if_neg (by omega)])
        go_wp2_with fail
        refine (KA.out w2).mono ?_
        rintro e w3 ⟨⟨aA, aC, rfl, ay, al, an⟩, b3⟩
        have B3 : Hid (Below W.heap.size W w3) := hide (B2.out.trans (b3.mono B2.out.size))
        obtain ⟨r3, e0, e1, e18, e35, e36, e37, e38, e39, e40, e41, e42⟩ := HK.out w3 B3.out
        have HAy := hide ay
        have HAl := hide al
        have HAn := hide an
        clear b3 ay al an
        dsimp only
        go_wp2_with fail
        refine (KB.out w3).mono ?_
        rintro e w4 ⟨⟨dA, dC, rfl, dy, dl, dn⟩, b4⟩
        have B4 : Hid (Below W.heap.size W w4) := hide (B3.out.trans (b4.mono B3.out.size))
        have HAy4 : Hid (Byt w4 w4.heap.size aA sB) := hide ((HAy.out.below b4).more b4.size)
        have HDy := hide dy
        have HDl := hide dl
        have HDn := hide dn
        obtain ⟨r4, f0, f1, f18, f35, f36, f37, f38, f39, f40, f41, f42⟩ := HK.out w4 B4.out
        clear b4 dy dl dn HAy r1 c0 c1 c18 c35 c36 c37 c38 c39 c40 c41 c42 r2 d0 d1 d18 d35 d36 d37 d38 d39 d40 d41 d42 r3 e0 e1 e18 e35 e36 e37 e38 e39 e40 e41 e42
        dsimp only
        rw [← HV.out] at f0
        have hrf := (right_facts HR.out.symm).2.2.2.1 HV.out.symm
        have hrt := (right_facts HR.out.symm).2.2.1
        obtain ⟨T, hT⟩ : ∃ T : Nat, h.tos = (T : Int) := ⟨h.tos.toNat, by omega⟩
        obtain ⟨Lb, hLb⟩ : ∃ T : Nat, h.lab = (T : Int) := ⟨h.lab.toNat, by omega⟩
        have hT255 : T ≤ 255 := by omega
        have hL20 : Lb ≤ 1048575 := by omega
        obtain ⟨tq, htq⟩ : ∃ q : Nat, q = T / 16 := ⟨_, rfl⟩
        obtain ⟨lq, hlq⟩ : ∃ q : Nat, q = Lb / 65536 := ⟨_, rfl⟩
        have htqi : (T : Int) / 16 = (tq : Int) := by omega
        have hlqi : (Lb : Int) / 65536 = (lq : Int) := by omega
        have hwtq : IntKind.i64.wrap (tq : Int) = (tq : Int) := IntWalk.i64_in _ (by omega)
        have hwlq : IntKind.i64.wrap (lq : Int) = (lq : Int) := IntWalk.i64_in _ (by omega)
        have hw16 : IntKind.i64.wrap ((T : Int) * 16) = (T : Int) * 16 := IntWalk.i64_in _ (by omega)
        have hor1 := or96 (q := tq) (by omega)
        have hor2 : bits .or .i64 ((T : Int) * 16) (lq : Int) = (T : Int) * 16 + (lq : Int) := by
          have e := i64_or_join 4 (T * 16) lq (by omega) (by omega) (by omega) (by omega)
          simpa using e
        obtain ⟨u0, hu0⟩ : ∃ u, u = b8 (96 + (tq : Int)) := ⟨_, rfl⟩
        obtain ⟨u1, hu1⟩ : ∃ u, u = b8 ((T : Int) * 16 + (lq : Int)) := ⟨_, rfl⟩
        obtain ⟨u3, hu3⟩ : ∃ u, u = b8 h.p := ⟨_, rfl⟩
        obtain ⟨u4, hu4⟩ : ∃ u, u = b8 h.ttl := ⟨_, rfl⟩
        have q0 := b8_eq (96 + (tq : Int))
        have q1 := b8_eq ((T : Int) * 16 + (lq : Int))
        have q3 := b8_eq h.p
        have q4 := b8_eq h.ttl
        rw [← hu0] at q0
        rw [← hu1] at q1
        rw [← hu3] at q3
        rw [← hu4] at q4
        have HU0 : Hid (u0 = UInt8.ofNat (96 + T / 16)) := hide (by
          rw [hu0, ← htq, show (96 : Int) + (tq : Int) = ((96 + tq : Nat) : Int) by omega, b8_natJ])
        have HU1 : Hid (u1 = UInt8.ofNat (T * 16 + Lb / 65536)) := hide (by
          rw [hu1, ← hlq, show (T : Int) * 16 + (lq : Int) = ((T * 16 + lq : Nat) : Int) by omega, b8_natJ])
        have HU3 := hide hu3
        have HU4 := hide hu4
        have HT := hide hT
        have HLB := hide hLb
        have f37' : w4.cell? ⟨w.heap.size, 37, none⟩ = some (.int .i64 (T : Int)) := by rw [← hT]; exact f37
        have f40' : w4.cell? ⟨w.heap.size, 40, none⟩ = some (.int .i64 (Lb : Int)) := by rw [← hLb]; exact f40
        have hsB4 : sB = h.sb := by
          have hr : rightL h.sv h.sb = true := by have := HR.out.symm; unfold rightH at this; revert this; cases rightL h.sv h.sb <;> simp
          have hsv : h.sv = true := by have := HR.out.symm; rw [HV.out]; unfold rightH at this; revert this; cases h.sv <;> cases h.v <;> simp
          rw [HsB.out]; unfold byB; rw [hr, hsv, if_pos rfl]; exact List.take_of_length_le (by rw [HP.out.x.ls]; decide)
        have hdB4 : dB = h.db := by
          have hr : rightL h.dv h.db = true := by have := HR.out.symm; unfold rightH at this; revert this; cases rightL h.dv h.db <;> simp
          have hsv : h.dv = true := by have := HR.out.symm; rw [HV.out]; unfold rightH at this; revert this; cases h.dv <;> cases h.v <;> simp
          rw [HdB.out]; unfold byB; rw [hr, hsv, if_pos rfl]; exact List.take_of_length_le (by rw [HP.out.x.ld]; decide)
        have HSB4 := hide hsB4
        have HDB4 := hide hdB4
        have HSL : Hid (sB.length = 16) := hide (by rw [hsB4, HP.out.x.ls])
        have HDL : Hid (dB.length = 16) := hide (by rw [hdB4, HP.out.x.ld])
        have HK4 := hide (fun (W1 : World) (b : Below w4.heap.size w4 W1) => HK.out W1 (B4.out.trans (b.mono B4.out.size)))
        clear hu0 hu1 hu3 hu4 htq hlq hT hLb hT255 hL20 hrf hrt f37 f40 hsB4 hdB4
        go_wp2_with (at_builtin; refine wpList_app_bytes rfl (.tmp 35) (.tmp 49) rfl w4.heap.size (.slice none 0 0) [] [u0, u1] (w4.heap.size + 1) 2 (some ⟨w4.heap.size, 0, none⟩) rfl rfl (OwnB.nil _ _) (by exact Byt.lit w4 [u0, u1] _ _ (0, 0) rfl) (fun e => by cases e) (by simp) (by simp) ?_)
        intro v6 w6 hown6 hgr6 hat6
        have C6 : Hid (Below w4.heap.size w4 w6) := hide (((Below.refl _ _).alloc (Nat.le_refl _) _).grown hgr6 (by simp) (fun k hk => by simp [Value.ownBlock] at hk))
        have O6 : Hid (OwnB w6 w4.heap.size v6 [u0, u1]) := hide hown6
        obtain ⟨r6, c0, c1, c18, c35, c36, c37, c38, c39, c40, c41, c42⟩ := HK4.out w6 C6.out
        clear hown6 hgr6 hat6 r4 f0 f1 f18 f35 f36 f37' f38 f39 f40' f41 f42 c0 c1 c18 c35 c36 c37 c38 c39 c41 c42
        go_wp2_with fail
        refine (put2_any w6 w4.heap.size v6 _ h.lab O6.out C6.out.size (by simp)).mono ?_
        rintro e w8 ⟨v8, rfl, O8, b8x⟩
        have C8 : Hid (Below w4.heap.size w4 w8) := hide (C6.out.trans b8x)
        have HO8 := hide O8
        obtain ⟨r8, c0, c1, c18, c35, c36, c37, c38, c39, c40', c41, c42⟩ := HK4.out w8 C8.out
        rw [← HND.out] at c42
        clear O8 b8x r6 c40 c0 c1 c18 c35 c36 c37 c38 c39 c40' c41
        dsimp only
        go_wp2_with fail
        refine (put2_any w8 w4.heap.size v8 _ (nd : Int) HO8.out C8.out.size (by simp)).mono ?_
        rintro e w10 ⟨v10, rfl, O10, b10⟩
        have C10 : Hid (Below w4.heap.size w4 w10) := hide (C8.out.trans b10)
        have HO10 := hide O10
        have hz10 := hide C10.out.size
        obtain ⟨r10, c0, c1, c18, c35, c36, c37, c38, c39, c40, c41, c42'⟩ := HK4.out w10 C10.out
        clear O10 b10 r8 c42 c0 c1 c18 c37 c38 c39 c40 c41 c42'
        dsimp only
        go_wp2_with (at_builtin; refine wpList_app_bytes rfl (.tmp 60) (.tmp 67) rfl w4.heap.size v10 _ [u3, u4] (w10.heap.size + 1) 2 (some ⟨w10.heap.size, 0, none⟩) rfl rfl (by exact HO10.out.alloc _) (by exact Byt.lit w10 [u3, u4] _ _ (0, 0) rfl) (fun e => by cases e) (by simp) (by have := hz10.out; simp; omega) ?_)
        intro v11 w11 hown11 hgr11 hat11
        have C11 : Hid (Below w4.heap.size w4 w11) := hide ((C10.out.alloc C10.out.size _).grown hgr11 (by have := hz10.out; simp; omega) (fun k hk => (World.ownsRow.lt HO10.out k hk).1))
        have HO11 := hide hown11
        have HAy11 := hide (HAy4.out.below C11.out)
        clear hown11 hgr11 hat11 r10 c35 c36
        go_wp2_with (at_builtin; refine wpList_app_bytes rfl (.tmp 69) (.tmp 70) rfl w4.heap.size v11 _ sB w4.heap.size aC aA rfl rfl (by exact HO11.out) (by exact HAy11.out) HAn.out (by have := HSL.out; simp; omega) C11.out.size ?_)
        intro v12 w12 hown12 hgr12 hat12
        have C12 : Hid (Below w4.heap.size w4 w12) := hide (C11.out.grown hgr12 C11.out.size (fun k hk => (World.ownsRow.lt HO11.out k hk).1))
        have HO12 := hide hown12
        have HDy12 := hide (HDy.out.below C12.out)
        clear hown12 hgr12 hat12
        go_wp2_with (at_builtin; refine wpList_app_bytes rfl (.tmp 72) (.tmp 73) rfl w4.heap.size v12 _ dB w4.heap.size dC dA rfl rfl (by exact HO12.out) (by exact HDy12.out) HDn.out (by have := HSL.out; have := HDL.out; simp; omega) C12.out.size ?_)
        intro v13 w13 hown13 hgr13 hat13
        have C13 : Hid (Below w4.heap.size w4 w13) := hide (C12.out.grown hgr13 C12.out.size (fun k hk => (World.ownsRow.lt HO12.out k hk).1))
        obtain ⟨L, hLL, hown⟩ : ∃ L, L ++ D = pktB h O D ∧ OwnB w13 w4.heap.size v13 L := ⟨_, by
          have e := doc6_all (O := O) hE.out HV.out.symm HP.out.x.ls HP.out.x.ld HP.out.dl HT.out HLB.out HND.out HU0.out HU1.out
          rw [← HU3.out, ← HU4.out, ← HSB4.out, ← HDB4.out] at e
          exact e, hown13⟩
        have hLn : L.length ≤ 65535 := by
          have e := congrArg List.length hLL
          rw [List.length_append, pk_len hE.out HP.out.x.ls HP.out.x.ld HP.out.ol HP.out.dl] at e
          have := (pktE_zero hE.out).2
          omega
        have HLN := hide hLn
        have HLL := hide hLL
        have HO13 := hide hown
        obtain ⟨r13, c0, c1, c18, c35, c36, c37, c38, c39, c40, c41, c42⟩ := HK4.out w13 C13.out
        rw [← HP.out.dl] at c42
        have hwW : Below w.heap.size w w13 := HB.out.trans ((B4.out.trans (C13.out.mono B4.out.size)).mono HB.out.size)
        have HDD := hide (HP.out.d.below hwW)
        clear hown13 hgr13 hat13 hwW hLL hLn hown c0 c1 c18 c35 c36 c37 c38 c39 c40 c41
        go_wp2_with (at_builtin; refine wpList_app_bytes rfl (.tmp 75) (.tmp 77) rfl w4.heap.size v13 L D w.heap.size h.cd h.ad rfl rfl (by exact HO13.out) (by exact HDD.out) HP.out.dn (by have := HLN.out; have := HP.out.dl; have := HND.out; have := hbig; omega) C13.out.size ?_)
        intro v18 w18 hown18 hgr18 hat18
        have C18 : Hid (Below w4.heap.size w4 w18) := hide (C13.out.grown hgr18 C13.out.size (fun k hk => (World.ownsRow.lt HO13.out k hk).1))
        have HO18 : Hid (OwnB w18 w4.heap.size v18 (pktB h O D)) := hide (by rw [← HLL.out]; exact hown18)
        clear hown18 hgr18 hat18
        go_wp2
        go_ret2
        rw [hE.out]
        have hb4 : w.heap.size ≤ w4.heap.size := by have := HB.out.size; have := B4.out.size; omega
        obtain ⟨A, c, e, -⟩ := HO18.out.shape
        exact ⟨A, c, by subst e; rfl, by rw [← e]; exact HO18.out.low hb4, HB.out.trans ((B4.out.trans (C18.out.mono B4.out.size)).mono HB.out.size)⟩)

theorem refputH_any (w : World) (X : Array Value) (h : Ip) (O D : List UInt8) (p : InP w X h O D) :
    Calls Tryz.prog 21 #[.agg X] w fun e w' => ∃ A c, e = .returned (.tuple #[.slice A (pktB h O D).length c, .int .i64 (pktE h)]) ∧ OwnB w' w.heap.size (.slice A (pktB h O D).length c) (pktB h O D) ∧ Below w.heap.size w w' := by
  cases hv : h.v
  · exact refput4_any w X h O D p hv
  · exact refput6_any w X h O D p hv
end Go.Proofs.YtihakjcccbionaaGreatDoor

end
