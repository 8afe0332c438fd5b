/-
  A store that is new; a pin put into a store.
-/
import Derived.Test.YtbkipfmnbfjkcaaVq
namespace Go.Proofs.Ytbkipfmnbfjkcaa
open Go.RowKit
set_option maxRecDepth 100000
set_option linter.unusedVariables false
set_option linter.unusedSimpArgs false
attribute [local go_sem ↓] exec_span exec_put exec_build heap_alloc_new heap_old
attribute [local go_sem] spanQ_ptr spanC_some heap_of_drew heap_of_drewN putAt_ptr putOk_ptr oldOk_some World.setRow_alloc_new rs_Flow rs_Pin rs_Com rs_Sto rs_Que rs_tup built_pin0 built_com built_pin pinZ_lit tkZ_lit

theorem built_sto (m : Int) (a b : Nat) : Try.prog.built 95 [(0, .int .i64 m), (1, .map (some a)), (2, .map (some b))] = some #[.int .i64 m, .map (some a), .map (some b)] := by kernel_rfl
attribute [local go_sem] built_sto
/-- what New hands back. -/
def NewSP (w : World) (most : Int) (e : Ending) (w' : World) : Prop :=
  Below w.heap.size w w' ∧ (((1 ≤ most ∧ most ≤ 256) ∧ ∃ p bp bu, e = .returned (.tuple #[.pointer (some ⟨p, 0, none⟩), .int .i64 0]) ∧ w.heap.size ≤ bp ∧ w.heap.size ≤ bu ∧ StoS w' p bp bu most [] []) ∨
    (¬ (1 ≤ most ∧ most ≤ 256) ∧ e = .returned (.tuple #[.pointer none, .int .i64 1])))
theorem new_sto (w : World) (most : Int) : StoS (((w.alloc (.map #[] 0)).alloc (.map #[] 0)).alloc (.cells #[.int .i64 most, .map (some w.heap.size), .map (some (w.heap.size + 1))] 95)) (w.heap.size + 2) w.heap.size (w.heap.size + 1) most [] [] := by
  have h1 := heap_alloc_new w (.map #[] 0)
  have h2 := heap_alloc_new (w.alloc (.map #[] 0)) (.map #[] 0)
  have h3 := heap_alloc_new ((w.alloc (.map #[] 0)).alloc (.map #[] 0)) (.cells #[.int .i64 most, .map (some w.heap.size), .map (some (w.heap.size + 1))] 95)
  rw [World.size_alloc] at h2
  rw [World.size_alloc, World.size_alloc] at h3
  refine ⟨h3, ⟨#[], 0, ?_, rfl, Stamps.nil 0⟩, ⟨#[], 0, ?_, rfl, Stamps.nil 0⟩, by omega, List.nodup_nil⟩
  · rw [heap_alloc_old _ _ (by simp; omega), heap_alloc_old _ _ (by simp)]; exact h1
  · rw [heap_alloc_old _ _ (by simp)]; exact h2
set_option maxHeartbeats 2000000 in
theorem newS_any (w : World) (most : Int) : Calls Try.prog 26 #[.int .i64 most] w (NewSP w most) := by
  by_cases h1 : most < 1
  · have HF : Hid (NewSP w most (.returned (.tuple #[.pointer none, .int .i64 1])) w) := hide ⟨Below.refl _ _, .inr ⟨by omega, rfl⟩⟩
    go_enter Try.func26, Try.ntmps26
    go_wp2
    go_ret2
    exact HF.out
  · by_cases h2 : most > 256
    · have HF : Hid (NewSP w most (.returned (.tuple #[.pointer none, .int .i64 1])) w) := hide ⟨Below.refl _ _, .inr ⟨by omega, rfl⟩⟩
      go_enter Try.func26, Try.ntmps26
      go_wp2
      go_ret2
      exact HF.out
    · have HM := hide (show 1 ≤ most ∧ most ≤ 256 by omega)
      have hmk := @run_makeMap Try.prog 92
      have hmk2 := @run_makeMap Try.prog 93
      have HN := hide (new_sto w most)
      have hao : ∀ a b : Nat, allOne #[.int .i64 most, .map (some a), .map (some b)] = true := fun a b => by simp [allOne, Value.oneCell']
      go_enter Try.func26, Try.ntmps26
      go_wp2
      go_ret2
      exact ⟨(((Below.refl _ w).alloc (Nat.le_refl _) _).alloc (by simp) _).alloc (by simp; omega) _, .inl ⟨HM.out, w.heap.size + 2, w.heap.size, w.heap.size + 1, rfl, Nat.le_refl _, Nat.le_succ _, HN.out⟩⟩
/-! what is put -/
def putP (q : PinR) : List PinR → List PinR
  | [] => [q]
  | a :: l => if q.t = a.t then q :: l else a :: putP q l
theorem put_pin (q : PinR) : ∀ (l : List PinR), putM q.t (Value.agg (pinA q)) (pinE l) = pinE (putP q l)
  | [] => rfl
  | a :: l => by
    unfold pinE putM putP
    simp only [List.map_cons]
    by_cases h : q.t = a.t
    · rw [if_pos h, if_pos h]; rfl
    · rw [if_neg h, if_neg h, List.map_cons]
      have := put_pin q l
      unfold pinE at this
      rw [this]
theorem putP_mem {q x : PinR} : ∀ {l : List PinR}, x ∈ putP q l → x = q ∨ x ∈ l
  | [], h => by simp [putP] at h; exact .inl h
  | a :: l, h => by
    unfold putP at h
    split at h
    · rcases List.mem_cons.1 h with h | h
      · exact .inl h
      · exact .inr (List.mem_cons_of_mem _ h)
    · rcases List.mem_cons.1 h with h | h
      · exact .inr (by rw [h]; exact List.mem_cons_self)
      · rcases putP_mem h with h | h
        · exact .inl h
        · exact .inr (List.mem_cons_of_mem _ h)
theorem putP_keys {q : PinR} : ∀ {l : List PinR}, (l.map (·.t)).Nodup → ((putP q l).map (·.t)).Nodup
  | [], _ => by simp [putP]
  | a :: l, h => by
    unfold putP
    simp only [List.map_cons, List.nodup_cons] at h
    split
    · next e => simp only [List.map_cons, List.nodup_cons]; rw [e]; exact h
    · next e =>
      simp only [List.map_cons, List.nodup_cons]
      refine ⟨fun hm => ?_, putP_keys h.2⟩
      obtain ⟨x, hx, hxt⟩ := List.mem_map.1 hm
      rcases putP_mem hx with rfl | hx
      · exact e hxt
      · exact h.1 (List.mem_map.2 ⟨x, hx, hxt⟩)
def lookU (k : Int × Int) (u : List ((Int × Int) × Int)) : Option Int := (u.find? (fun x => decide (k = x.1))).map (·.2)
def putU (k : Int × Int) (z : Int) : List ((Int × Int) × Int) → List ((Int × Int) × Int)
  | [] => [(k, z)]
  | a :: u => if k = a.1 then (k, z) :: u else a :: putU k z u
theorem put_unt (k : Int × Int) (z : Int) : ∀ (u : List ((Int × Int) × Int)), putM k (Value.int .i64 z) (untE u) = untE (putU k z u)
  | [] => rfl
  | a :: l => by
    unfold untE putM putU
    simp only [List.map_cons]
    by_cases h : k = a.1
    · rw [if_pos h, if_pos h]; rfl
    · rw [if_neg h, if_neg h, List.map_cons]
      have := put_unt k z l
      unfold untE at this
      rw [this]
theorem look_unt (k : Int × Int) (u : List ((Int × Int) × Int)) : lookGm (untE u) k = (lookU k u).map (fun z => Value.int .i64 z) := by
  rw [lookGm_find]
  unfold untE lookU
  rw [List.find?_map, Option.map_map, Option.map_map]
  rfl
theorem unt_look {w : World} {p bp bu : Nat} {most : Int} {l : List PinR} {u : List ((Int × Int) × Int)} (h : StoS w p bp bu most l u) (k : Int × Int) (ok : Bool) :
    (Instr.lookup 93 (.map (some bu)) (.agg #[.int .i64 k.1, .int .i64 k.2]) ok).run Try.prog w = .ok (if ok then .tuple #[.int .i64 ((lookU k u).getD 0), .bool (lookU k u).isSome] else .int .i64 ((lookU k u).getD 0)) w := by
  have := h.unt.look (P := Try.prog) keyC Try.underlying93 (zero_i64V w) k ok
  rw [look_unt] at this
  refine this.trans ?_
  cases lookU k u <;> cases ok <;> rfl
end Go.Proofs.Ytbkipfmnbfjkcaa
