import Derived.Test.YtdlilokmfekndaaMgr
import Derived.Test.YtdlilokmfekndaaMkn
import Derived.Test.YtdlilokmfekndaaMif
import Derived.Test.YtdlilokmfekndaaIv
import Derived.Test.YtdlilokmfekndaaMku
import Derived.Test.YtdlilokmfekndaaGnm
import Derived.Test.YtdlilokmfekndaaJm
section
/-
  A way, in memory; a frame of a tunnel, in mathematics.
-/
namespace Go.Proofs.Ytdlilokmfekndaa
open Go.RowKit
set_option maxRecDepth 100000
set_option linter.unusedVariables false
set_option linter.unusedSimpArgs false

/-- a way: from where, to where, its port, how long it lives, how many bytes a frame may have. -/
structure PaG where
  sv : Bool
  sb : List UInt8
  dv : Bool
  db : List UInt8
  port : Int
  ttl : Int
  mtu : Int
def paL (p : PaG) : List Value := adL p.sv p.sb ++ (adL p.dv p.db ++ [.int .i64 p.port, .int .i64 p.ttl, .int .i64 p.mtu])
structure PaV (X : Array Value) (p : PaG) : Prop where
  eq : X = (paL p).toArray
  ls : p.sb.length = 16
  ld : p.db.length = 16
section
variable {X : Array Value} {p : PaG}
theorem PaV.size (x : PaV X p) : X.size = 37 := by rw [x.eq]; simp [paL, lenI_adL x.ls, lenI_adL x.ld]
theorem PaV.x0 (x : PaV X p) : X.extract 0 37 = X := by rw [← x.size]; simp
theorem paL_one (p : PaG) : ∀ v ∈ paL p, v.oneCell' = true := by
  intro v hv
  simp only [paL, adL, List.mem_append, List.mem_cons, List.mem_map, List.not_mem_nil, or_false] at hv
  rcases hv with (rfl | ⟨u, -, rfl⟩) | (rfl | ⟨u, -, rfl⟩) | rfl | rfl | rfl <;> rfl
theorem PaV.one (x : PaV X p) : allOne X = true := by
  rw [x.eq]
  unfold allOne
  rw [List.all_toArray]
  simpa using paL_one p
theorem PaV.src (x : PaV X p) : X.extract 0 17 = (adL p.sv p.sb).toArray := by
  rw [x.eq, List.extract_toArray]
  congr 1
  simp only [paL, List.extract_eq_take_drop, List.drop_zero]
  rw [List.take_append_of_le_length (by rw [lenI_adL x.ls]; decide), List.take_of_length_le (by rw [lenI_adL x.ls]; decide)]
theorem PaV.dst (x : PaV X p) : X.extract 17 34 = (adL p.dv p.db).toArray := by
  rw [x.eq, List.extract_toArray]
  congr 1
  simp only [paL, List.extract_eq_take_drop]
  rw [List.drop_left' (lenI_adL x.ls), List.take_append_of_le_length (by rw [lenI_adL x.ld]; decide), List.take_of_length_le (by rw [lenI_adL x.ld]; decide)]
theorem PaV.cells (x : PaV X p) {w : World} {g : Nat} {ty : TypeId} (hg : w.heap[g]? = some (.cells X ty (0, 0))) : w.cell? ⟨g, 0, none⟩ = some (.bool p.sv) ∧ w.cell? ⟨g, 34, none⟩ = some (.int .i64 p.port) ∧ w.cell? ⟨g, 35, none⟩ = some (.int .i64 p.ttl) ∧ w.cell? ⟨g, 36, none⟩ = some (.int .i64 p.mtu) := by
  have h : ∀ j, w.cell? ⟨g, j, none⟩ = X[j]? := fun j => cell_of_row w g j X ty (0, 0) hg
  have e : ∀ j, X[34 + j]? = [Value.int .i64 p.port, .int .i64 p.ttl, .int .i64 p.mtu][j]? := fun j => by
    rw [x.eq, List.getElem?_toArray]
    unfold paL
    rw [List.getElem?_append_right (by rw [lenI_adL x.ls]; omega), List.getElem?_append_right (by rw [lenI_adL x.ls, lenI_adL x.ld]; omega), lenI_adL x.ls, lenI_adL x.ld, show 34 + j - 17 - 17 = j by omega]
  refine ⟨?_, (h 34).trans ((e 0).trans rfl), (h 35).trans ((e 1).trans rfl), (h 36).trans ((e 2).trans rfl)⟩
  rw [h, x.eq]; rfl
end
/-- the packet of a frame, ahead of its data. -/
def hG (p : PaG) (A : Option Addr) (n c : Nat) : Ip := ⟨p.sv, p.sv, p.sb, p.dv, p.db, 17, p.ttl, 0, 0, false, 0, none, 0, 0, A, n, c⟩
/-- the datagram of a frame. -/
def sG (p : PaG) (A : Option Addr) (n c : Nat) : Sg := ⟨17, p.port, 6081, 0, 0, 0, 0, 0, false, none, 0, 0, A, n, c⟩
/-- a frame of a tunnel, or why there is none. -/
def wrapG (p : PaG) (T : TuD) : List UInt8 × Int :=
  if (putD T).2 ≠ 0 then ([], ((putD T).2 : Int))
  else if p.mtu < 1 ∨ 65535 < p.mtu then ([], 1)
  else if putE (hG p none 0 0) (sG p none (putD T).1.length 0) ≠ 0 then ([], putE (hG p none 0 0) (sG p none (putD T).1.length 0))
  else if pktE (hG p none (putB (hG p none 0 0) (sG p none (putD T).1.length 0) [] (putD T).1).length 0) ≠ 0 then ([], pktE (hG p none (putB (hG p none 0 0) (sG p none (putD T).1.length 0) [] (putD T).1).length 0))
  else if p.mtu < ((pktB (hG p none (putB (hG p none 0 0) (sG p none (putD T).1.length 0) [] (putD T).1).length 0) [] (putB (hG p none 0 0) (sG p none (putD T).1.length 0) [] (putD T).1)).length : Int) then ([], 16)
  else (pktB (hG p none (putB (hG p none 0 0) (sG p none (putD T).1.length 0) [] (putD T).1).length 0) [] (putB (hG p none 0 0) (sG p none (putD T).1.length 0) [] (putD T).1), 0)
theorem built_hGA (v s d : Bool) (t : Int) (b0 b1 b2 b3 b4 b5 b6 b7 b8 b9 b10 b11 b12 b13 b14 b15 c0 c1 c2 c3 c4 c5 c6 c7 c8 c9 c10 c11 c12 c13 c14 c15 : UInt8) :
    Try.prog.built 48 [(0, .bool v), (1, .agg (adL s [b0, b1, b2, b3, b4, b5, b6, b7, b8, b9, b10, b11, b12, b13, b14, b15]).toArray), (2, .agg (adL d [c0, c1, c2, c3, c4, c5, c6, c7, c8, c9, c10, c11, c12, c13, c14, c15]).toArray), (3, .int .i64 17), (4, .int .i64 t)] = some (ipL ⟨v, s, [b0, b1, b2, b3, b4, b5, b6, b7, b8, b9, b10, b11, b12, b13, b14, b15], d, [c0, c1, c2, c3, c4, c5, c6, c7, c8, c9, c10, c11, c12, c13, c14, c15], 17, t, 0, 0, false, 0, none, 0, 0, none, 0, 0⟩).toArray := by kernel_rfl
theorem built_hG (p : PaG) (ls : p.sb.length = 16) (ld : p.db.length = 16) : Try.prog.built 48 [(0, .bool p.sv), (1, .agg (adL p.sv p.sb).toArray), (2, .agg (adL p.dv p.db).toArray), (3, .int .i64 17), (4, .int .i64 p.ttl)] = some (ipL (hG p none 0 0)).toArray := by
  obtain ⟨sv, sb, dv, db, po, t, m⟩ := p
  match sb, db, ls, ld with
  | [_, _, _, _, _, _, _, _, _, _, _, _, _, _, _, _], [_, _, _, _, _, _, _, _, _, _, _, _, _, _, _, _], _, _ => exact built_hGA _ _ _ _ _ _ _ _ _ _ _ _ _ _ _ _ _ _ _ _ _ _ _ _ _ _ _ _ _ _ _ _ _ _ _ _
theorem built_sG (p : PaG) (A : Option Addr) (n c : Nat) : Try.prog.built 53 [(0, .int .i64 17), (1, .int .i64 p.port), (2, .int .i64 6081), (10, .slice A n c)] = some (sgL (sG p A n c)).toArray := by kernel_rfl
end Go.Proofs.Ytdlilokmfekndaa

end
section
/-
  The walk of geneve.Wrap.
-/
namespace Go.Proofs.Ytdlilokmfekndaa
open Go.RowKit
set_option maxRecDepth 100000
set_option linter.unusedVariables false
set_option linter.unusedSimpArgs false
attribute [local go_sem ↓] exec_span exec_put exec_build heap_alloc_new heap_old
attribute [local go_sem] spanQ_ptr spanC_some heap_of_drew heap_of_drewN putAt_ptr putOk_ptr oldOk_some World.setRow_alloc_new rs_tunG rs_ad rs_ip rs_seg rs_arr

theorem tuG_size {w : World} {X : Array Value} {T : TuD} (h : TuG w X T) : X.size = 5 ∧ allOne X = true ∧ X.extract 0 5 = X := by obtain ⟨_, _, _, _, _, rfl, _⟩ := h; exact ⟨rfl, tunA_one _ _ _ _ _ _ _ _ _, rfl⟩
theorem rs_path : rowSize Try.prog 28 = some 37 := by kernel_rfl
attribute [local go_sem] rs_path
theorem wrapG_put (p : PaG) (T : TuD) (h : (putD T).2 ≠ 0) : wrapG p T = ([], ((putD T).2 : Int)) := by unfold wrapG; rw [if_pos h]
theorem wrapG_mtu (p : PaG) (T : TuD) (h : ¬ (putD T).2 ≠ 0) (h2 : p.mtu < 1 ∨ 65535 < p.mtu) : wrapG p T = ([], 1) := by unfold wrapG; rw [if_neg h, if_pos h2]
theorem wrapG_on (p : PaG) (T : TuD) (h : ¬ (putD T).2 ≠ 0) (h2 : ¬ (p.mtu < 1 ∨ 65535 < p.mtu)) (L Dg B : List UInt8) (E7 E9 : Int) (hL : L = (putD T).1) (hD : Dg = putB (hG p none 0 0) (sG p none L.length 0) [] L) (hE7 : E7 = putE (hG p none 0 0) (sG p none L.length 0)) (hB : B = pktB (hG p none Dg.length 0) [] Dg) (hE9 : E9 = pktE (hG p none Dg.length 0)) :
    wrapG p T = if E7 ≠ 0 then ([], E7) else if E9 ≠ 0 then ([], E9) else if p.mtu < (B.length : Int) then ([], 16) else (B, 0) := by
  unfold wrapG
  subst hL hD hE7 hB hE9
  rw [if_neg h, if_neg h2]
theorem putD_len (T : TuD) : (putD T).1.length ≤ 65535 := by
  unfold putD
  by_cases h1 : rightD T = false
  · rw [if_pos h1]; simp
  · rw [if_neg h1]
    by_cases h2 : 252 < sizeD T.l
    · rw [if_pos h2]; simp
    · rw [if_neg h2]
      by_cases h3 : (bytD T).length ≤ 65535
      · rw [if_pos h3]; exact h3
      · rw [if_neg h3]; simp
theorem putB_len (h : Ip) (s : Sg) (O D : List UInt8) (hO : O.length = s.no) (hD : D.length = s.nd) : (putB h s O D).length ≤ 65535 := by
  unfold putB
  by_cases h0 : putE h s = 0
  · rw [if_pos h0]
    unfold putE at h0
    by_cases h1 : (h.p = 6 ∨ h.p = 17) ∧ s.p = h.p
    · rw [if_pos h1] at h0
      by_cases h2 : rightS s = true ∧ (s.ns && h.v) = false
      · rw [if_pos h2] at h0
        by_cases h3 : 65535 < hdN s + s.nd
        · rw [if_pos h3] at h0; cases h0
        · rw [len_segB h2.1 hO hD]; omega
      · rw [if_neg h2] at h0; cases h0
    · rw [if_neg h1] at h0; cases h0
  · rw [if_neg h0]; simp
end Go.Proofs.Ytdlilokmfekndaa

end
section
/-
  How long a frame is; the walk of path.
-/
namespace Go.Proofs.Ytdlilokmfekndaa
open Go.RowKit
set_option maxRecDepth 100000
set_option linter.unusedVariables false
set_option linter.unusedSimpArgs false
attribute [local go_sem ↓] exec_span exec_put exec_build heap_alloc_new heap_old
attribute [local go_sem] spanQ_ptr spanC_some heap_of_drew heap_of_drewN putAt_ptr putOk_ptr oldOk_some World.setRow_alloc_new rs_ad rs_arr rs_path

def atMtu (p : PaG) (m : Int) : PaG := { p with mtu := m }
/-- how many bytes a frame has. -/
def lenF (p : PaG) (T : TuD) : Nat := 36 + (if p.sv then 20 else 0) + (sizeD T.l + T.D.length)
theorem wrapG_bad {p : PaG} {T : TuD} (h : (wrapG p T).2 ≠ 0) : (wrapG p T).1 = [] := by
  unfold wrapG at h ⊢
  by_cases h1 : (putD T).2 ≠ 0
  · rw [if_pos h1]
  · rw [if_neg h1] at h ⊢
    by_cases h2 : p.mtu < 1 ∨ 65535 < p.mtu
    · rw [if_pos h2]
    · rw [if_neg h2] at h ⊢
      by_cases h3 : putE (hG p none 0 0) (sG p none (putD T).1.length 0) ≠ 0
      · rw [if_pos h3]
      · rw [if_neg h3] at h ⊢
        by_cases h4 : pktE (hG p none (putB (hG p none 0 0) (sG p none (putD T).1.length 0) [] (putD T).1).length 0) ≠ 0
        · rw [if_pos h4]
        · rw [if_neg h4] at h ⊢
          by_cases h5 : p.mtu < ((pktB (hG p none (putB (hG p none 0 0) (sG p none (putD T).1.length 0) [] (putD T).1).length 0) [] (putB (hG p none 0 0) (sG p none (putD T).1.length 0) [] (putD T).1)).length : Int)
          · rw [if_pos h5]
          · rw [if_neg h5] at h; exact absurd rfl h
theorem putD_zero {T : TuD} (h : ¬ (putD T).2 ≠ 0) : (putD T).1 = bytD T := by
  unfold putD at h ⊢
  by_cases h1 : rightD T = false
  · rw [if_pos h1] at h; simp at h
  · rw [if_neg h1] at h ⊢
    by_cases h2 : 252 < sizeD T.l
    · rw [if_pos h2] at h; simp at h
    · rw [if_neg h2] at h ⊢
      by_cases h3 : (bytD T).length ≤ 65535
      · rw [if_pos h3]
      · rw [if_neg h3] at h; simp at h
/-- a frame that is one: its length, and what comes of less room. -/
theorem wrapG_len {p : PaG} {T : TuD} (ls : p.sb.length = 16) (ld : p.db.length = 16) (h : (wrapG (atMtu p 65535) T).2 = 0) :
    (wrapG (atMtu p 65535) T).1.length = lenF p T ∧ lenF p T ≤ 65535 ∧ wrapG (atMtu p (lenF p T : Nat)) T = wrapG (atMtu p 65535) T ∧ wrapG (atMtu p ((lenF p T : Nat) - 1 : Int)) T = ([], 16) := by
  have hk : ∀ m A n c, hG (atMtu p m) A n c = hG p A n c := fun _ _ _ _ => rfl
  have hk2 : ∀ m A n c, sG (atMtu p m) A n c = sG p A n c := fun _ _ _ _ => rfl
  have hm : ∀ m, (atMtu p m).mtu = m := fun _ => rfl
  unfold wrapG at h ⊢
  simp only [hk, hk2, hm] at h ⊢
  by_cases h1 : (putD T).2 ≠ 0
  · rw [if_pos h1] at h; simp at h; omega
  · rw [if_neg h1] at h
    rw [if_neg h1, if_neg h1, if_neg h1]
    have hL := putD_zero h1
    have hLl : (putD T).1.length = 8 + (sizeD T.l + T.D.length) := by rw [hL, bytD_len]
    rw [if_neg (by omega)] at h
    rw [if_neg (show ¬ ((65535 : Int) < 1 ∨ (65535 : Int) < 65535) by omega)]
    obtain ⟨L, hLL⟩ : ∃ L, L = (putD T).1 := ⟨_, rfl⟩
    rw [← hLL] at h hLl ⊢
    obtain ⟨E7, hE7⟩ : ∃ D, D = putE (hG p none 0 0) (sG p none L.length 0) := ⟨_, rfl⟩
    obtain ⟨Dg, hDg⟩ : ∃ D, D = putB (hG p none 0 0) (sG p none L.length 0) [] L := ⟨_, rfl⟩
    rw [← hE7, ← hDg] at h ⊢
    by_cases h3 : E7 ≠ 0
    · rw [if_pos h3] at h; exact absurd h h3
    · rw [if_neg h3] at h
      rw [if_neg h3, if_neg h3, if_neg h3]
      have h3' : E7 = 0 := by simpa using h3
      rw [h3'] at hE7
      have hDl : Dg.length = 8 + L.length := by
        rw [hDg]
        unfold putB
        rw [if_pos hE7.symm]
        have hr : rightS (sG p none L.length 0) = true := by
          have h9 := hE7
          unfold putE at h9
          rw [if_pos ⟨.inr rfl, rfl⟩] at h9
          by_cases h2 : rightS (sG p none L.length 0) = true ∧ ((sG p none L.length 0).ns && (hG p none 0 0).v) = false
          · exact h2.1
          · rw [if_neg h2] at h9; cases h9
        rw [len_segB hr rfl rfl]
        rfl
      obtain ⟨E9, hE9⟩ : ∃ D, D = pktE (hG p none Dg.length 0) := ⟨_, rfl⟩
      obtain ⟨B, hB⟩ : ∃ D, D = pktB (hG p none Dg.length 0) [] Dg := ⟨_, rfl⟩
      rw [← hE9, ← hB] at h ⊢
      by_cases h4 : E9 ≠ 0
      · rw [if_pos h4] at h; exact absurd h h4
      · rw [if_neg h4] at h
        rw [if_neg h4, if_neg h4, if_neg h4]
        have h4' : E9 = 0 := by simpa using h4
        rw [h4'] at hE9
        have hBl : B.length = lenF p T := by
          rw [hB, pk_len hE9.symm ls ld rfl rfl]
          unfold lenF sizeN
          show (if p.sv = true then 40 else 20 + 0) + Dg.length = _
          rw [hDl, hLl]
          cases p.sv <;> simp <;> omega
        by_cases h5 : (65535 : Int) < (B.length : Int)
        · rw [if_pos h5] at h; cases h
        · have hf : 36 ≤ lenF p T := by unfold lenF; omega
          rw [if_neg h5, hBl]
          refine ⟨rfl, by omega, ?_, ?_⟩
          · rw [if_neg (by omega), if_neg (by omega)]
          · rw [if_neg (by omega), if_pos (by omega)]
theorem built_pA (s d : Bool) (a t m : Int) (b0 b1 b2 b3 b4 b5 b6 b7 b8 b9 b10 b11 b12 b13 b14 b15 c0 c1 c2 c3 c4 c5 c6 c7 c8 c9 c10 c11 c12 c13 c14 c15 : UInt8) :
    Try.prog.built 28 [(0, .agg (adL s [b0, b1, b2, b3, b4, b5, b6, b7, b8, b9, b10, b11, b12, b13, b14, b15]).toArray), (1, .agg (adL d [c0, c1, c2, c3, c4, c5, c6, c7, c8, c9, c10, c11, c12, c13, c14, c15]).toArray), (2, .int .i64 a), (3, .int .i64 t), (4, .int .i64 m)] = some (paL ⟨s, [b0, b1, b2, b3, b4, b5, b6, b7, b8, b9, b10, b11, b12, b13, b14, b15], d, [c0, c1, c2, c3, c4, c5, c6, c7, c8, c9, c10, c11, c12, c13, c14, c15], a, t, m⟩).toArray := by kernel_rfl
theorem built_pG (p : PaG) (ls : p.sb.length = 16) (ld : p.db.length = 16) : Try.prog.built 28 [(0, .agg (adL p.sv p.sb).toArray), (1, .agg (adL p.dv p.db).toArray), (2, .int .i64 p.port), (3, .int .i64 p.ttl), (4, .int .i64 p.mtu)] = some (paL p).toArray := by
  obtain ⟨sv, sb, dv, db, po, t, m⟩ := p
  match sb, db, ls, ld with
  | [_, _, _, _, _, _, _, _, _, _, _, _, _, _, _, _], [_, _, _, _, _, _, _, _, _, _, _, _, _, _, _, _], _, _ => exact built_pA _ _ _ _ _ _ _ _ _ _ _ _ _ _ _ _ _ _ _ _ _ _ _ _ _ _ _ _ _ _ _ _ _ _ _ _ _
theorem pa_set36 (p : PaG) (ls : p.sb.length = 16) (ld : p.db.length = 16) (m : Int) : (paL p).toArray.setIfInBounds 36 (.int .i64 m) = (paL (atMtu p m)).toArray := by
  obtain ⟨sv, sb, dv, db, po, t, m0⟩ := p
  match sb, db, ls, ld with
  | [_, _, _, _, _, _, _, _, _, _, _, _, _, _, _, _], [_, _, _, _, _, _, _, _, _, _, _, _, _, _, _, _], _, _ => rfl
/-- a way of which another room is said. -/
theorem PaV.turn {X : Array Value} {p : PaG} (x : PaV X p) (m : Int) : PaV (paL (atMtu p m)).toArray (atMtu p m) := ⟨rfl, x.ls, x.ld⟩
theorem PaV.store {X : Array Value} {p : PaG} (x : PaV X p) {w : World} {g : Nat} {ty : TypeId} (hg : w.heap[g]? = some (.cells X ty (0, 0))) (m : Int) : (w.setCell ⟨g, 36, none⟩ (.int .i64 m)).heap[g]? = some (.cells (paL (atMtu p m)).toArray ty (0, 0)) := by
  have h := heap_setCell_same w g 36 _ _ (.int .i64 m) hg
  rw [x.eq, pa_set36 p x.ls x.ld] at h
  exact h
theorem rs_rpath : rowSize Try.prog 35 = some 37 := by kernel_rfl
theorem info_path : (Try.prog.info? 28).map (·.size) = some 37 := by kernel_rfl
attribute [local go_sem] rs_rpath
end Go.Proofs.Ytdlilokmfekndaa

end
section
/-
  The walk of way: a way as the document has it.
-/
namespace Go.Proofs.Ytdlilokmfekndaa
open Go.RowKit
set_option maxRecDepth 100000
set_option linter.unusedVariables false
set_option linter.unusedSimpArgs false
attribute [local go_sem ↓] exec_span exec_put exec_build heap_alloc_new heap_old
attribute [local go_sem] spanQ_ptr spanC_some heap_of_drew heap_of_drewN putAt_ptr putOk_ptr oldOk_some World.setRow_alloc_new rs_ad rs_arr rs_path rs_rpath
theorem built_rpA (s d : Bool) (a t m : Int) (b0 b1 b2 b3 b4 b5 b6 b7 b8 b9 b10 b11 b12 b13 b14 b15 c0 c1 c2 c3 c4 c5 c6 c7 c8 c9 c10 c11 c12 c13 c14 c15 : UInt8) :
    Try.prog.built 35 [(0, .agg (adL s [b0, b1, b2, b3, b4, b5, b6, b7, b8, b9, b10, b11, b12, b13, b14, b15]).toArray), (1, .agg (adL d [c0, c1, c2, c3, c4, c5, c6, c7, c8, c9, c10, c11, c12, c13, c14, c15]).toArray), (2, .int .i64 a), (3, .int .i64 t), (4, .int .i64 m)] = some (paL ⟨s, [b0, b1, b2, b3, b4, b5, b6, b7, b8, b9, b10, b11, b12, b13, b14, b15], d, [c0, c1, c2, c3, c4, c5, c6, c7, c8, c9, c10, c11, c12, c13, c14, c15], a, t, m⟩).toArray := by kernel_rfl
theorem built_rpG (p : PaG) (ls : p.sb.length = 16) (ld : p.db.length = 16) : Try.prog.built 35 [(0, .agg (adL p.sv p.sb).toArray), (1, .agg (adL p.dv p.db).toArray), (2, .int .i64 p.port), (3, .int .i64 p.ttl), (4, .int .i64 p.mtu)] = some (paL p).toArray := by
  obtain ⟨sv, sb, dv, db, po, t, m⟩ := p
  match sb, db, ls, ld with
  | [_, _, _, _, _, _, _, _, _, _, _, _, _, _, _, _], [_, _, _, _, _, _, _, _, _, _, _, _, _, _, _, _], _, _ => exact built_rpA _ _ _ _ _ _ _ _ _ _ _ _ _ _ _ _ _ _ _ _ _ _ _ _ _ _ _ _ _ _ _ _ _ _ _ _ _
theorem info_rpath : (Try.prog.info? 35).map (·.size) = some 37 := by kernel_rfl
set_option maxHeartbeats 4000000 in
theorem way_any (w : World) (P : Array Value) (p : PaG) (hp : PaV P p) :
    Calls Try.prog 7 #[.agg P] w fun e w' => e = .returned (.agg P) ∧ Below w.heap.size w w' := by
  have hps := hp.size
  have hpo := hp.one
  obtain ⟨S, hS⟩ : ∃ S, S = (adL p.sv p.sb).toArray := ⟨_, rfl⟩
  obtain ⟨D, hD⟩ : ∃ D, D = (adL p.dv p.db).toArray := ⟨_, rfl⟩
  have hsrc := hp.src
  have hdst := hp.dst
  rw [← hS] at hsrc
  rw [← hD] at hdst
  have hbp := built_rpG p hp.ls hp.ld
  rw [← hS, ← hD, ← hp.eq] at hbp
  obtain ⟨Z, hZ⟩ : ∃ Z, Z = (paL ⟨false, List.replicate 16 0, false, List.replicate 16 0, 0, 0, 0⟩).toArray := ⟨_, rfl⟩
  have hZs : Z.size = 37 := by rw [hZ]; rfl
  obtain ⟨W0, hW0, r0, z0, b0⟩ := alloc_tl w (.cells P 28)
  obtain ⟨W, hW, r1, z1, b1⟩ := alloc_tl W0 (.cells Z 35)
  rw [z0] at r1
  have r0' := (b1.block w.heap.size (by omega)).trans r0
  have bW : Below w.heap.size w W := b0.trans (b1.mono (by omega))
  obtain ⟨-, d34, d35, d36⟩ := hp.cells r0'
  have HB := hide bW
  have HW := hide (And.intro hW0 hW)
  have HZ := hide hZ
  have HR1 := hide r1
  clear hW0 hW r0 z0 z1 b0 b1 bW hS hD hp hZ
  go_enter Try.func7, Try.ntmps7
  go_upto_region 1 with (fail)
  change Code.wp _ _ _ _ ((w.alloc (.cells P 28)).alloc (.cells (paL ⟨false, List.replicate 16 0, false, List.replicate 16 0, 0, 0, 0⟩).toArray 35))
  rw [← HZ.out, HW.out.1, HW.out.2]
  go_wp2
  refine bodyPost_ret (results_cell_row (fn := Try.f7) Try.results7 _ _ (w.heap.size + 1) 35 P (0, 0) _ rfl (setRow_heap W _ _ _ _ _ HR1.out) Try.underlying35 rfl (by rw [hps]; exact info_rpath)) rfl ?_
  exact ⟨rfl, below_setRow HB.out (Nat.le_succ _) _⟩
end Go.Proofs.Ytdlilokmfekndaa

end
