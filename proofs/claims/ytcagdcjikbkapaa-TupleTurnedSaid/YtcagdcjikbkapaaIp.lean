/-
  Words for packets: the cells of one; and the walks of what it is asked: how long its head is, can it be.
-/
import Derived.Test.YtcagdcjikbkapaaMad
namespace Go.Proofs.Ytcagdcjikbkapaa
open Go.RowKit
attribute [local go_sem ↓] exec_span exec_put exec_build heap_alloc_new heap_old
attribute [local go_sem] spanQ_ptr spanC_some heap_of_drew heap_of_drewN rs_arr rs_ad putAt_ptr putOk_ptr oldOk_some built_none World.setRow_alloc_new
set_option maxRecDepth 100000
set_option linter.unusedVariables false
set_option linter.unusedSimpArgs false

/-- what a packet is (its lists by where they lie). -/
structure Ip where
  v : Bool
  sv : Bool
  sb : List UInt8
  dv : Bool
  db : List UInt8
  p : Int
  ttl : Int
  tos : Int
  id : Int
  df : Bool
  lab : Int
  ao : Option Addr
  no : Nat
  co : Nat
  ad : Option Addr
  nd : Nat
  cd : Nat
def ipT (h : Ip) : List Value := [.int .i64 h.p, .int .i64 h.ttl, .int .i64 h.tos, .int .i64 h.id, .bool h.df, .int .i64 h.lab, .slice h.ao h.no h.co, .slice h.ad h.nd h.cd]
def ipL (h : Ip) : List Value := .bool h.v :: (adL h.sv h.sb ++ (adL h.dv h.db ++ ipT h))
structure IpV (X : Array Value) (h : Ip) : Prop where
  eq : X = (ipL h).toArray
  ls : h.sb.length = 16
  ld : h.db.length = 16
theorem lenI_adL {v : Bool} {l : List UInt8} (h : l.length = 16) : (adL v l).length = 17 := by simp [adL, h]
theorem IpV.size {X : Array Value} {h : Ip} (x : IpV X h) : X.size = 43 := by rw [x.eq]; simp [ipL, ipT, lenI_adL x.ls, lenI_adL x.ld]
theorem IpV.x0 {X : Array Value} {h : Ip} (x : IpV X h) : X.extract 0 43 = X := by rw [← x.size]; simp
theorem IpV.one {X : Array Value} {h : Ip} (x : IpV X h) : allOne X = true := by
  have e1 : ∀ (v : Bool) (l : List UInt8), ∀ u ∈ adL v l, u.oneCell' = true := fun v l u hu => by
    rcases List.mem_cons.1 hu with rfl | hu
    · rfl
    · exact byteV_one l u hu
  rw [x.eq]
  refine all_oneCell_toArray fun u hu => ?_
  rcases List.mem_cons.1 hu with rfl | hu
  · rfl
  · rcases List.mem_append.1 hu with hu | hu
    · exact e1 _ _ u hu
    · rcases List.mem_append.1 hu with hu | hu
      · exact e1 _ _ u hu
      · simp [ipT] at hu
        rcases hu with rfl | rfl | rfl | rfl | rfl | rfl | rfl | rfl <;> rfl
/-- its parts. -/
theorem IpV.src {X : Array Value} {h : Ip} (x : IpV X h) : X.extract 1 18 = (adL h.sv h.sb).toArray := by
  rw [x.eq, List.extract_toArray]
  congr 1
  simp only [ipL, List.extract_eq_take_drop, List.drop_succ_cons, List.drop_zero]
  rw [List.take_append_of_le_length (by rw [lenI_adL x.ls]; decide), List.take_of_length_le (by rw [lenI_adL x.ls]; decide)]
theorem IpV.dst {X : Array Value} {h : Ip} (x : IpV X h) : X.extract 18 35 = (adL h.dv h.db).toArray := by
  rw [x.eq, List.extract_toArray]
  congr 1
  simp only [ipL, List.extract_eq_take_drop, List.drop_succ_cons]
  rw [List.drop_append_of_le_length (by rw [lenI_adL x.ls]; decide), List.drop_of_length_le (by rw [lenI_adL x.ls]; decide), List.nil_append, List.take_append_of_le_length (by rw [lenI_adL x.ld]; decide), List.take_of_length_le (by rw [lenI_adL x.ld]; decide)]
theorem IpV.get {X : Array Value} {h : Ip} (x : IpV X h) (i : Nat) : X[35 + i]? = (ipT h)[i]? := by
  rw [x.eq]
  simp only [List.getElem?_toArray, ipL]
  rw [show 35 + i = (34 + i) + 1 by omega, List.getElem?_cons_succ, List.getElem?_append_right (by rw [lenI_adL x.ls]; omega), lenI_adL x.ls, List.getElem?_append_right (by rw [lenI_adL x.ld]; omega), lenI_adL x.ld]
  congr 1; omega
/-- what a walk asks of a packet's block. -/
structure IpC (w : World) (g : Nat) (h : Ip) : Prop where
  c0 : w.cell? ⟨g, 0, none⟩ = some (.bool h.v)
  c1 : w.cell? ⟨g, 1, none⟩ = some (.bool h.sv)
  c18 : w.cell? ⟨g, 18, none⟩ = some (.bool h.dv)
  c35 : w.cell? ⟨g, 35, none⟩ = some (.int .i64 h.p)
  c36 : w.cell? ⟨g, 36, none⟩ = some (.int .i64 h.ttl)
  c37 : w.cell? ⟨g, 37, none⟩ = some (.int .i64 h.tos)
  c38 : w.cell? ⟨g, 38, none⟩ = some (.int .i64 h.id)
  c39 : w.cell? ⟨g, 39, none⟩ = some (.bool h.df)
  c40 : w.cell? ⟨g, 40, none⟩ = some (.int .i64 h.lab)
  c41 : w.cell? ⟨g, 41, none⟩ = some (.slice h.ao h.no h.co)
  c42 : w.cell? ⟨g, 42, none⟩ = some (.slice h.ad h.nd h.cd)
theorem IpV.cells {X : Array Value} {h : Ip} (x : IpV X h) {w : World} {g : Nat} {ty : TypeId} (hg : w.heap[g]? = some (.cells X ty (0, 0))) : IpC w g h := by
  have hc := fun i => cell_of_row w g i X ty (0, 0) hg
  have hg' := fun i => (hc (35 + i)).trans (x.get i)
  have e0 : X[0]? = some (.bool h.v) := by rw [x.eq]; rfl
  have e1 : X[1]? = some (.bool h.sv) := by rw [x.eq]; rfl
  have e18 : X[18]? = some (.bool h.dv) := by
    rw [x.eq]
    simp only [List.getElem?_toArray, ipL]
    rw [List.getElem?_cons_succ, List.getElem?_append_right (by rw [lenI_adL x.ls]; omega), lenI_adL x.ls]; rfl
  exact ⟨(hc 0).trans e0, (hc 1).trans e1, (hc 18).trans e18, hg' 0, hg' 1, hg' 2, hg' 3, hg' 4, hg' 5, hg' 6, hg' 7⟩
theorem IpV.bytS {X : Array Value} {h : Ip} (x : IpV X h) {w : World} {g : Nat} {ty : TypeId} {B : Nat} (hg : w.heap[g]? = some (.cells X ty (0, 0))) (hB : g < B) : Byt w B (some ⟨g, 2, none⟩) h.sb := fun _ =>
  ⟨g, 2, rfl, hB, fun i hi => by
    rw [cell_of_row w g (2 + i) X ty (0, 0) hg, x.eq]
    simp only [List.getElem?_toArray, ipL]
    rw [show 2 + i = (1 + i) + 1 by omega, List.getElem?_cons_succ, List.getElem?_append_left (by rw [lenI_adL x.ls]; have := x.ls; omega), Nat.add_comm 1]
    simp [adL, byteV, hi]⟩
theorem IpV.bytD {X : Array Value} {h : Ip} (x : IpV X h) {w : World} {g : Nat} {ty : TypeId} {B : Nat} (hg : w.heap[g]? = some (.cells X ty (0, 0))) (hB : g < B) : Byt w B (some ⟨g, 19, none⟩) h.db := fun _ =>
  ⟨g, 19, rfl, hB, fun i hi => by
    rw [cell_of_row w g (19 + i) X ty (0, 0) hg, x.eq]
    simp only [List.getElem?_toArray, ipL]
    rw [show 19 + i = (18 + i) + 1 by omega, List.getElem?_cons_succ, List.getElem?_append_right (by rw [lenI_adL x.ls]; omega), lenI_adL x.ls, List.getElem?_append_left (by rw [lenI_adL x.ld]; have := x.ld; omega), show 18 + i - 17 = i + 1 by omega]
    simp [adL, byteV, hi]⟩
theorem rs_ip : rowSize Try.prog 36 = some 43 := by kernel_rfl
theorem rs_rip : rowSize Try.prog 27 = some 43 := by kernel_rfl
attribute [local go_sem] rs_ip rs_rip

/-- how long its head is. -/
def sizeH (h : Ip) : Int := if h.v then 40 else 20 + (h.no : Int)

set_option maxHeartbeats 1000000 in
theorem sizeh_any (w : World) (X : Array Value) (h : Ip) (x : IpV X h) (hn : h.no ≤ 140737488355328) :
    Calls Try.prog 76 #[.agg X] w fun e w' => e = .returned (.int .i64 (sizeH h)) ∧ Below w.heap.size w w' := by
  have hxs := x.size
  obtain ⟨W, hW, h1, hz, hb⟩ := one_block w (.cells X 36)
  have hc := x.cells h1
  have d0 := hc.c0
  have d41 := hc.c41
  have H := hide (show sizeH h = if h.v then 40 else 20 + (h.no : Int) from rfl)
  have hB := hide hb
  obtain ⟨v, hv⟩ : ∃ v, v = h.v := ⟨_, rfl⟩
  rw [← hv] at d0 H
  clear hc hz hb h1 x hxs hv
  cases v
  · go_enter Try.func76, Try.ntmps76
    go_wp2
    go_ret
    exact ⟨ret_int (by rw [H.out]; rfl), hB.out⟩
  · go_enter Try.func76, Try.ntmps76
    go_wp2
    go_ret
    exact ⟨ret_int (by rw [H.out]; rfl), hB.out⟩
end Go.Proofs.Ytcagdcjikbkapaa
