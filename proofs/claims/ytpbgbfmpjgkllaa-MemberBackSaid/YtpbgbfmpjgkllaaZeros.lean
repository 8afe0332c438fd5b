/-
  'append(v, make([]byte, k)...)' where v is the call's own.
-/
import Derived.Test.YtpbgbfmpjgkllaaBase
import Derived.Lib.AppendZerosOnto
namespace Go.Proofs.Ytpbgbfmpjgkllaa
open Go.RowKit
set_option maxRecDepth 100000

/-- k zeros. -/
def zerosL (k : Nat) : List UInt8 := List.replicate k 0
theorem length_zerosL (k : Nat) : (zerosL k).length = k := List.length_replicate ..
theorem zeroCells_u8 (k : Nat) : Builtin.zeroCells (Value.cells (.int .u8 0)) k = ((zerosL k).map byteV).toArray := by
  have hs : (Value.cells (.int .u8 0)) = #[.int .u8 0] := by simp [Value.cells]
  rw [hs]
  apply Array.ext
  · simp [Builtin.zeroCells, zerosL]
  · intro i h1 h2
    simp [Builtin.zeroCells, zerosL, byteV, Nat.mod_one]

theorem run_app_zeros (w : World) (base ty : Nat) (v : Value) (l0 : List UInt8) (k : Nat) (hown : OwnB w base v l0) (hlen : l0.length + k ≤ 140737488355328) (hbase : base ≤ w.heap.size) :
    ∃ v' w', (Builtin.append_ #[53, 3] ty #[v, .int .i64 (k : Int)]).run Try.prog w = .ok v' w' ∧ OwnB w' base v' (l0 ++ zerosL k) ∧ w.grownBy w' v.ownBlock ∧ (v'.ownBlock = v.ownBlock ∨ v'.ownBlock = some w.heap.size) := by
  obtain ⟨i0, hi, hz0, hz1, hz2⟩ := info_parts info_u8
  have hw : IntKind.i64.wrap (k : Int) = k := by rw [IntKind.wrap_i64]; omega
  have hneg : ¬ ((k : Int) < 0) := by omega
  have hT := Try.underlying53
  have hI := Try.underlying3
  have h48i : ¬ (281474976710656 < (k : Int) * (i0.bytes : Int)) := by rw [hz2]; omega
  have hlz : ((l0 ++ zerosL k).map byteV).length = (l0.length + k) * 1 := by simp [length_zerosL]
  have grown : ∀ (old : Nat), old < l0.length + k → ∀ (row : Option Nat),
      OwnB (w.drew.alloc (.cells ((l0.map byteV).toArray ++ Builtin.zeroCells (Value.cells (.int .u8 0)) k ++ Builtin.zeroCells (Value.cells (.int .u8 0)) (grownCap w (l0.length + k) old 5 - (l0.length + k))) 5)) base
        (.slice (some ⟨w.heap.size, 0, none⟩) (l0.length + k) (grownCap w (l0.length + k) old 5)) (l0 ++ zerosL k) ∧
      w.grownBy (w.drew.alloc (.cells ((l0.map byteV).toArray ++ Builtin.zeroCells (Value.cells (.int .u8 0)) k ++ Builtin.zeroCells (Value.cells (.int .u8 0)) (grownCap w (l0.length + k) old 5 - (l0.length + k))) 5)) row := by
    intro old ho row
    have hge := grownCap_ge w (l0.length + k) old 5
    have hcm : grownCap w (l0.length + k) old 5 ≤ maxLen := grownCap_le_maxLen w (l0.length + k) old 5 (by unfold maxLen; omega)
    have hll : (l0 ++ zerosL k).length = l0.length + k := by simp [length_zerosL]
    refine ⟨?_, ⟨rfl, rfl, rfl, by simp, fun j hj _ => Below.heap_alloc w.drew _ j hj⟩⟩
    unfold OwnB
    rw [hll]
    refine ⟨hlz, .inr ⟨w.heap.size, _, _, rfl, hbase, heap_alloc_new w.drew _, hge, hcm, ?_, ?_⟩⟩
    · simp [Array.size_append, size_zeroCells, Value.cells]; omega
    · rw [zeroCells_u8 k]
      simp only [Array.toList_append, List.append_assoc, List.map_append]
      rw [← List.append_assoc]
      refine List.take_left' ?_
      simp [length_zerosL]
  rcases hown.2 with ⟨rfl, h0⟩ | ⟨g, cap, cur, rfl, hbg, hg, hnc, hcm, hcs, htake⟩
  · obtain rfl : l0 = [] := List.eq_nil_of_length_eq_zero h0
    by_cases hk : k = 0
    · subst hk
      refine ⟨.slice none 0 0, w, ?_, OwnB.nil _ _, World.grownBy.refl w _, .inl rfl⟩
      simp [Builtin.append_, run_underlying hT, run_underlying hI, sizeOf, typeInfo, hi, asInt, asIntOf, IntKind.wrap_i64]
    · have hr := Lib.run_append_nil_zeros (P := Try.prog) w 53 3 ty 5 i0 (.int .u8 0) .i64 .i64 hT hI hi hz0 k (by omega) (by omega) (by omega) (by rw [hz2]; omega)
      have hgr := grown 0 (by simp; omega) (Value.ownBlock (.slice none 0 0))
      simp only [List.length_nil, Nat.zero_add, List.map_nil, List.nil_append, Array.empty_append] at hgr ⊢
      exact ⟨_, _, hr, hgr.1, hgr.2, Or.inr rfl⟩
  · by_cases hroom : l0.length + k ≤ cap
    · have hst := run_storeCells_at Try.prog g l0.length 5 ((zerosL k).map byteV) 0 cur w hg (by simp [length_zerosL]; omega) (byteV_one _)
      simp only [Nat.add_zero] at hst
      have hzc : (Builtin.zeroCells (Value.cells (.int .u8 0)) k).toList = (zerosL k).map byteV := by rw [zeroCells_u8]
      refine ⟨.slice (some ⟨g, 0, none⟩) (l0.length + k) cap, w.setRow g (cur.toList.take l0.length ++ (zerosL k).map byteV ++ cur.toList.drop (l0.length + ((zerosL k).map byteV).length)).toArray, ?_, ?_, ?_, .inl rfl⟩
      · by_cases hk : k = 0
        · subst hk
          simp only [zerosL, List.replicate_zero, List.map_nil] at hst
          simp [Builtin.append_, run_underlying hT, run_underlying hI, sizeOf, typeInfo, hi, hz1, hz2, asInt, asIntOf, IntKind.wrap_i64, hnc, Addr.add_lit, hst, zerosL]
        · have hns : ¬ (k * 1 = 0) := by omega
          simp [Builtin.append_, run_underlying hT, run_underlying hI, sizeOf, typeInfo, zeroValue, hi, hz0, hz1, hz2, asInt, asIntOf, hw, hk, hneg, hroom, Addr.add_lit, hzc, hst]
          intro h; exact absurd h (by omega)
      · unfold OwnB
        have hll : (l0 ++ zerosL k).length = l0.length + k := by simp [length_zerosL]
        rw [hll]
        refine ⟨hlz, .inr ⟨g, cap, _, rfl, hbg, setRow_heap w g cur _ _ _ hg, hroom, hcm, ?_, ?_⟩⟩
        · simp [length_zerosL]; omega
        · have ht : cur.toList.take l0.length = l0.map byteV := by simpa using htake
          rw [ht, List.map_append]
          refine List.take_left' ?_
          simp [length_zerosL]
      · exact ⟨rfl, rfl, rfl, by simp, fun j _ hj => setRow_other w g j _ (fun e => hj (by simp [Value.ownBlock, e]))⟩
    · have holds : ∀ j u, (l0.map byteV)[j]? = some u → w.cell? ((⟨g, 0, none⟩ : Addr).add j) = some u := World.ownsRow.cells (g := g) hown rfl
      have hf := run_firstCells_some (P := Try.prog) w.drew i0.size l0.length ⟨g, 0, none⟩ l0.length cap (l0.map byteV) (by simp [hz1]) (by simpa using holds)
      have hr := Lib.run_append_grow_zeros (P := Try.prog) w 53 3 ty 5 i0 (.int .u8 0) .i64 .i64 hT hI hi hz0 (some ⟨g, 0, none⟩) l0.length cap (l0.map byteV) hf k (by omega) (by omega) (by omega) (by omega) (by rw [hz2]; omega) (growslice_fits (by omega) (by rw [hz2]; omega))
      have hgr := grown cap (by omega) (Value.ownBlock (.slice (some ⟨g, 0, none⟩) l0.length cap))
      exact ⟨_, _, hr, hgr.1, hgr.2, Or.inr rfl⟩

theorem wpList_app_zeros {w : World} {ops : Array Oper} {rest : List Oper} {o : Oper} {a : Act} {Q : Exit → Act → World → Prop} (hgd : o.guard = none) (s x : Operand)
    (ho : o.op = .call { callee := .builtin .append, args := #[s, x], argTypes := #[53, 3] }) (base : Nat) (v : Value) (l0 : List UInt8) (k : Nat)
    (hs : a.eval s = v) (hx : a.eval x = .int .i64 (k : Int)) (hown : OwnB w base v l0) (hlen : l0.length + k ≤ 140737488355328) (hbase : base ≤ w.heap.size)
    (h : ∀ v' w', OwnB w' base v' (l0 ++ zerosL k) → w.grownBy w' v.ownBlock → (v'.ownBlock = v.ownBlock ∨ v'.ownBlock = some w.heap.size) → wpList Try.prog ops Q rest (a.put o.dst v') w') : wpList Try.prog ops Q (o :: rest) a w := by
  obtain ⟨v', w', hr, h2, h3, h4⟩ := run_app_zeros w base o.type v l0 k hown hlen hbase
  refine wpList_plain hgd fun K hK => ?_
  unfold Oper.wp execOp
  simp only [ho, resolve, invoke, builtin, Sem.run_bind, Sem.run_pure, Result.andThen_ok, List.map_toArray, List.map_cons, List.map_nil, hs, hx, hr]
  exact hK _ _ (h v' w' h2 h3 h4)
end Go.Proofs.Ytpbgbfmpjgkllaa
