/-
  Whether two tuples are one.
-/
import Derived.Test.YtbkipfmnbfjkcaaTuw
namespace Go.Proofs.Ytbkipfmnbfjkcaa
open Go.RowKit
set_option maxRecDepth 100000
set_option linter.unusedVariables false

theorem part_adr (X S : Array Value) (o : Nat) (hs : X.size = 37) (ho : o + 17 ≤ 37) (h1 : X.extract o (o + 17) = S) (w : World) : (part 61 X o).run Try.prog w = .ok (.agg S) w := by
  have e1 : (isAgg 61).run Try.prog w = .ok true w := by kernel_rfl
  simp [part, e1, h1]
theorem part_int (X : Array Value) (o : Nat) (n : Int) (h0 : X[o]? = some (.int .i64 n)) (w : World) : (part 3 X o).run Try.prog w = .ok (.int .i64 n) w := by
  have hu := Try.underlying3
  simp [part, isAgg, run_underlying hu, h0]
theorem fields_tu : (Try.prog.fieldsOf 63).toList.map (fun f => (f.type, f.offset, f.name)) = [(61, 0, "Src"), (61, 17, "Dst"), (3, 34, "Proto"), (3, 35, "SrcPort"), (3, 36, "DstPort")] := by kernel_rfl
theorem under_tu : Try.prog.underlying 63 = some (.struct (Try.prog.fieldsOf 63)) := by kernel_rfl
theorem held_tu : Try.prog.stoodInHeld 63 = false := by kernel_rfl
theorem list_five {α β : Type} {g : α → β} {a b c d e : β} : ∀ {L : List α}, L.map g = [a, b, c, d, e] → ∃ x y z u v, L = [x, y, z, u, v] ∧ g x = a ∧ g y = b ∧ g z = c ∧ g u = d ∧ g v = e
  | [x, y, z, u, v], h => by simp at h; exact ⟨x, y, z, u, v, rfl, h⟩
  | [], h => by simp at h
  | [_], h => by simp at h
  | [_, _], h => by simp at h
  | [_, _, _], h => by simp at h
  | [_, _, _, _], h => by simp at h
  | _ :: _ :: _ :: _ :: _ :: _ :: _, h => by simp at h
/-- whether they are one. -/
def sameT (t u : Tup) : Bool := (t.sv == u.sv && t.sb == u.sb) && ((t.dv == u.dv && t.db == u.db) && (t.p == u.p && (t.s == u.s && t.d == u.d)))
theorem sameT_iff (t u : Tup) : sameT t u = true ↔ t = u := by
  unfold sameT
  simp only [Bool.and_eq_true, beq_iff_eq]
  constructor
  · rintro ⟨h1, h2, h3, h4, h5⟩; exact Tup.ext' h1 h2 h3 h4 h5
  · rintro rfl; exact ⟨⟨rfl, rfl⟩, ⟨rfl, rfl⟩, rfl, rfl, rfl⟩
set_option maxHeartbeats 1000000 in
theorem equalIn_tu (d : Nat) (w : World) (X Y : Array Value) (t u : Tup) (h : TuV X t) (h' : TuV Y u) : (Op.equalIn (d + 5) 63 (.agg X) (.agg Y)).run Try.prog w = .ok (sameT t u) w := by
  rw [run_equalIn_struct w (d + 4) 63 X Y under_tu held_tu]
  obtain ⟨f0, f1, f2, f3, f4, hfs, e0, e1, e2, e3, e4⟩ := list_five fields_tu
  rw [hfs]
  simp only [Prod.mk.injEq] at e0 e1 e2 e3 e4
  obtain ⟨t0, o0, n0⟩ := e0
  obtain ⟨t1, o1, n1⟩ := e1
  obtain ⟨t2, o2, n2⟩ := e2
  obtain ⟨t3, o3, n3⟩ := e3
  obtain ⟨t4, o4, n4⟩ := e4
  simp only [Op.eqFields, t0, o0, n0, t1, o1, n1, t2, o2, n2, t3, o3, n3, t4, o4, n4]
  rw [if_pos (by decide), if_pos (by decide), if_pos (by decide), if_pos (by decide), if_pos (by decide)]
  obtain ⟨-, -, a3, a4, a5⟩ := h.at
  obtain ⟨-, -, b3, b4, b5⟩ := h'.at
  have E1 := equalIn_ad d w _ _ _ _ _ _ (AdV.mk' (v := t.sv) h.ls) (AdV.mk' (v := u.sv) h'.ls)
  have E2 := equalIn_ad d w _ _ _ _ _ _ (AdV.mk' (v := t.dv) h.ld) (AdV.mk' (v := u.dv) h'.ld)
  have E3 := run_equalIn_int (P := Try.prog) w (d + 3) 3 .i64 .i64 t.p u.p Try.underlying3
  have E4 := run_equalIn_int (P := Try.prog) w (d + 3) 3 .i64 .i64 t.s u.s Try.underlying3
  have E5 := run_equalIn_int (P := Try.prog) w (d + 3) 3 .i64 .i64 t.d u.d Try.underlying3
  have P1 := part_adr X _ 0 h.size (by decide) h.src w
  have P2 := part_adr X _ 17 h.size (by decide) h.dst w
  have Q1 := part_adr Y _ 0 h'.size (by decide) h'.src w
  have Q2 := part_adr Y _ 17 h'.size (by decide) h'.dst w
  simp only [Sem.run_bind, P1, Q1, Result.andThen_ok, E1]
  unfold sameT
  cases (t.sv == u.sv && t.sb == u.sb)
  · simp
  · simp only [Bool.not_true, Bool.false_eq_true, if_false, Bool.true_and, Sem.run_bind, P2, Q2, Result.andThen_ok, E2]
    cases (t.dv == u.dv && t.db == u.db)
    · simp
    · simp only [Bool.not_true, Bool.false_eq_true, if_false, Bool.true_and, Sem.run_bind, part_int X _ _ a3, part_int Y _ _ b3, Result.andThen_ok, E3]
      cases (t.p == u.p)
      · simp
      · simp only [Bool.not_true, Bool.false_eq_true, if_false, Bool.true_and, Sem.run_bind, part_int X _ _ a4, part_int Y _ _ b4, Result.andThen_ok, E4]
        cases (t.s == u.s)
        · simp
        · simp only [Bool.not_true, Bool.false_eq_true, if_false, Bool.true_and, Sem.run_bind, part_int X _ _ a5, part_int Y _ _ b5, Result.andThen_ok, E5]
          cases (t.d == u.d) <;> simp
theorem eql_tu (w : World) (X Y : Array Value) (t u : Tup) (h : TuV X t) (h' : TuV Y u) : (binOp .eql 63 (.agg X) (.agg Y)).run Try.prog w = .ok (.bool (sameT t u)) w := by
  rw [run_eql_struct, equalIn_tu 9995 w X Y t u h h']
  rfl
theorem neq_tu (w : World) (X Y : Array Value) (t u : Tup) (h : TuV X t) (h' : TuV Y u) : (binOp .neq 63 (.agg X) (.agg Y)).run Try.prog w = .ok (.bool (!sameT t u)) w := by
  rw [run_neq_struct, equalIn_tu 9995 w X Y t u h h']
  rfl
end Go.Proofs.Ytbkipfmnbfjkcaa
