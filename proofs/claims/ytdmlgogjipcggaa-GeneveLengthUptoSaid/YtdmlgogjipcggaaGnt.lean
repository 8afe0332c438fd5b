/-
  A way, in memory; a frame of a tunnel, in mathematics.
-/
import Derived.Test.YtdmlgogjipcggaaGnr
import Derived.Test.YtdmlgogjipcggaaMkn
import Derived.Test.YtdmlgogjipcggaaMif
namespace Go.Proofs.Ytdmlgogjipcggaa
open Go.RowKit
set_option maxRecDepth 100000
set_option linter.unusedVariables false
set_option linter.unusedSimpArgs false

/-- a way: from where, to where, its port, how long it lives, how many bytes a frame may have. -/
structure PaG where
  sv : Bool
  sb : List UInt8
  dv : Bool
  db : List UInt8
  port : Int
  ttl : Int
  mtu : Int
def paL (p : PaG) : List Value := adL p.sv p.sb ++ (adL p.dv p.db ++ [.int .i64 p.port, .int .i64 p.ttl, .int .i64 p.mtu])
structure PaV (X : Array Value) (p : PaG) : Prop where
  eq : X = (paL p).toArray
  ls : p.sb.length = 16
  ld : p.db.length = 16
section
variable {X : Array Value} {p : PaG}
theorem PaV.size (x : PaV X p) : X.size = 37 := by rw [x.eq]; simp [paL, lenI_adL x.ls, lenI_adL x.ld]
theorem PaV.x0 (x : PaV X p) : X.extract 0 37 = X := by rw [← x.size]; simp
theorem paL_one (p : PaG) : ∀ v ∈ paL p, v.oneCell' = true := by
  intro v hv
  simp only [paL, adL, List.mem_append, List.mem_cons, List.mem_map, List.not_mem_nil, or_false] at hv
  rcases hv with (rfl | ⟨u, -, rfl⟩) | (rfl | ⟨u, -, rfl⟩) | rfl | rfl | rfl <;> rfl
theorem PaV.one (x : PaV X p) : allOne X = true := by
  rw [x.eq]
  unfold allOne
  rw [List.all_toArray]
  simpa using paL_one p
theorem PaV.src (x : PaV X p) : X.extract 0 17 = (adL p.sv p.sb).toArray := by
  rw [x.eq, List.extract_toArray]
  congr 1
  simp only [paL, List.extract_eq_take_drop, List.drop_zero]
  rw [List.take_append_of_le_length (by rw [lenI_adL x.ls]; decide), List.take_of_length_le (by rw [lenI_adL x.ls]; decide)]
theorem PaV.dst (x : PaV X p) : X.extract 17 34 = (adL p.dv p.db).toArray := by
  rw [x.eq, List.extract_toArray]
  congr 1
  simp only [paL, List.extract_eq_take_drop]
  rw [List.drop_left' (lenI_adL x.ls), List.take_append_of_le_length (by rw [lenI_adL x.ld]; decide), List.take_of_length_le (by rw [lenI_adL x.ld]; decide)]
theorem PaV.cells (x : PaV X p) {w : World} {g : Nat} {ty : TypeId} (hg : w.heap[g]? = some (.cells X ty (0, 0))) : w.cell? ⟨g, 0, none⟩ = some (.bool p.sv) ∧ w.cell? ⟨g, 34, none⟩ = some (.int .i64 p.port) ∧ w.cell? ⟨g, 35, none⟩ = some (.int .i64 p.ttl) ∧ w.cell? ⟨g, 36, none⟩ = some (.int .i64 p.mtu) := by
  have h : ∀ j, w.cell? ⟨g, j, none⟩ = X[j]? := fun j => cell_of_row w g j X ty (0, 0) hg
  have e : ∀ j, X[34 + j]? = [Value.int .i64 p.port, .int .i64 p.ttl, .int .i64 p.mtu][j]? := fun j => by
    rw [x.eq, List.getElem?_toArray]
    unfold paL
    rw [List.getElem?_append_right (by rw [lenI_adL x.ls]; omega), List.getElem?_append_right (by rw [lenI_adL x.ls, lenI_adL x.ld]; omega), lenI_adL x.ls, lenI_adL x.ld, show 34 + j - 17 - 17 = j by omega]
  refine ⟨?_, (h 34).trans ((e 0).trans rfl), (h 35).trans ((e 1).trans rfl), (h 36).trans ((e 2).trans rfl)⟩
  rw [h, x.eq]; rfl
end
/-- the packet of a frame, ahead of its data. -/
def hG (p : PaG) (A : Option Addr) (n c : Nat) : Ip := ⟨p.sv, p.sv, p.sb, p.dv, p.db, 17, p.ttl, 0, 0, false, 0, none, 0, 0, A, n, c⟩
/-- the datagram of a frame. -/
def sG (p : PaG) (A : Option Addr) (n c : Nat) : Sg := ⟨17, p.port, 6081, 0, 0, 0, 0, 0, false, none, 0, 0, A, n, c⟩
/-- a frame of a tunnel, or why there is none. -/
def wrapG (p : PaG) (T : TuD) : List UInt8 × Int :=
  if (putD T).2 ≠ 0 then ([], ((putD T).2 : Int))
  else if p.mtu < 1 ∨ 65535 < p.mtu then ([], 1)
  else if putE (hG p none 0 0) (sG p none (putD T).1.length 0) ≠ 0 then ([], putE (hG p none 0 0) (sG p none (putD T).1.length 0))
  else if pktE (hG p none (putB (hG p none 0 0) (sG p none (putD T).1.length 0) [] (putD T).1).length 0) ≠ 0 then ([], pktE (hG p none (putB (hG p none 0 0) (sG p none (putD T).1.length 0) [] (putD T).1).length 0))
  else if p.mtu < ((pktB (hG p none (putB (hG p none 0 0) (sG p none (putD T).1.length 0) [] (putD T).1).length 0) [] (putB (hG p none 0 0) (sG p none (putD T).1.length 0) [] (putD T).1)).length : Int) then ([], 16)
  else (pktB (hG p none (putB (hG p none 0 0) (sG p none (putD T).1.length 0) [] (putD T).1).length 0) [] (putB (hG p none 0 0) (sG p none (putD T).1.length 0) [] (putD T).1), 0)
theorem built_hGA (v s d : Bool) (t : Int) (b0 b1 b2 b3 b4 b5 b6 b7 b8 b9 b10 b11 b12 b13 b14 b15 c0 c1 c2 c3 c4 c5 c6 c7 c8 c9 c10 c11 c12 c13 c14 c15 : UInt8) :
    Try.prog.built 83 [(0, .bool v), (1, .agg (adL s [b0, b1, b2, b3, b4, b5, b6, b7, b8, b9, b10, b11, b12, b13, b14, b15]).toArray), (2, .agg (adL d [c0, c1, c2, c3, c4, c5, c6, c7, c8, c9, c10, c11, c12, c13, c14, c15]).toArray), (3, .int .i64 17), (4, .int .i64 t)] = some (ipL ⟨v, s, [b0, b1, b2, b3, b4, b5, b6, b7, b8, b9, b10, b11, b12, b13, b14, b15], d, [c0, c1, c2, c3, c4, c5, c6, c7, c8, c9, c10, c11, c12, c13, c14, c15], 17, t, 0, 0, false, 0, none, 0, 0, none, 0, 0⟩).toArray := by kernel_rfl
theorem built_hG (p : PaG) (ls : p.sb.length = 16) (ld : p.db.length = 16) : Try.prog.built 83 [(0, .bool p.sv), (1, .agg (adL p.sv p.sb).toArray), (2, .agg (adL p.dv p.db).toArray), (3, .int .i64 17), (4, .int .i64 p.ttl)] = some (ipL (hG p none 0 0)).toArray := by
  obtain ⟨sv, sb, dv, db, po, t, m⟩ := p
  match sb, db, ls, ld with
  | [_, _, _, _, _, _, _, _, _, _, _, _, _, _, _, _], [_, _, _, _, _, _, _, _, _, _, _, _, _, _, _, _], _, _ => exact built_hGA _ _ _ _ _ _ _ _ _ _ _ _ _ _ _ _ _ _ _ _ _ _ _ _ _ _ _ _ _ _ _ _ _ _ _ _
theorem built_sG (p : PaG) (A : Option Addr) (n c : Nat) : Try.prog.built 88 [(0, .int .i64 17), (1, .int .i64 p.port), (2, .int .i64 6081), (10, .slice A n c)] = some (sgL (sG p A n c)).toArray := by kernel_rfl
end Go.Proofs.Ytdmlgogjipcggaa
