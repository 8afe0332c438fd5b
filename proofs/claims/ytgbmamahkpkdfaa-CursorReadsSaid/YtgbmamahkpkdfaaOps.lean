/-
  The walk of 'ops': pieces as the program has them, in new memory.
-/
import Derived.Test.YtgbmamahkpkdfaaKnownC
namespace Go.Proofs.Ytgbmamahkpkdfaa
open Go.RowKit
set_option maxRecDepth 100000

def opCells (l : List (Int × Int)) : List Value := l.flatMap fun o => [Value.int .i64 o.1, Value.int .i64 o.2]
theorem opCells_snoc (l : List (Int × Int)) (o : Int × Int) : opCells (l ++ [o]) = opCells l ++ [.int .i64 o.1, .int .i64 o.2] := by simp [opCells]
theorem opCells_get : ∀ (l : List (Int × Int)) (j : Nat) (h : j < l.length), (opCells l)[j * 2]? = some (.int .i64 l[j].1) ∧ (opCells l)[j * 2 + 1]? = some (.int .i64 l[j].2)
  | [], j, h => by simp at h
  | x :: t, 0, _ => ⟨rfl, rfl⟩
  | x :: t, j + 1, h => by
    have := opCells_get t j (by simp at h; omega)
    rw [opCells, List.flatMap_cons, ← opCells, show (j + 1) * 2 = j * 2 + 2 from by omega, show j * 2 + 2 + 1 = j * 2 + 1 + 2 from by omega]
    simpa using this
/-- the slice value v owns, from block 'base' on, a row of pieces. -/
def OwnO (w : World) (base : Nat) (v : Value) (l : List (Int × Int)) : Prop := w.ownsRow base 109 2 v l.length (opCells l)
theorem OwnO.shape {w : World} {base : Nat} {v : Value} {l : List (Int × Int)} (h : OwnO w base v l) : ∃ A c, v = .slice A l.length c ∧ Ops w w.heap.size A l ∧ (∀ a, A = some a → base ≤ a.block) := by
  rcases h.2 with ⟨rfl, h0⟩ | ⟨gg, cap, cur, rfl, hb, hg, hn, hm, hsz, ht⟩
  · obtain rfl : l = [] := List.eq_nil_of_length_eq_zero h0
    exact ⟨none, 0, rfl, fun hp => absurd hp (by simp), fun a e => by cases e⟩
  · refine ⟨some ⟨gg, 0, none⟩, cap, rfl, fun _ => ⟨gg, 0, rfl, (Array.getElem?_eq_some_iff.1 hg).1, fun i hi => ?_⟩, fun a e => by cases e; exact hb⟩
    obtain ⟨h1, h2⟩ := opCells_get l i hi
    have hc : ∀ i, i < l.length * 2 → w.cell? ⟨gg, i, none⟩ = (opCells l)[i]? := fun i hi => World.ownsRow.cellAt (g := gg) (cap := cap) h i hi
    rw [Nat.zero_add]
    exact ⟨(hc _ (by omega)).trans h1, (hc _ (by omega)).trans h2⟩

theorem info_op : (Try.prog.info? 109).map (fun i => (i.zero, i.size, i.bytes)) = some (some (.agg #[.int .i64 0, .int .i64 0]), 2, 16) := by kernel_rfl

set_option maxRecDepth 100000 in
set_option maxHeartbeats 3200000 in
theorem ops_any (w : World) (A : Option Addr) (c : Nat) (l : List (Int × Int)) (hlen : l.length ≤ 8796093022208) (ho : Ops w w.heap.size A l) :
    Calls Try.prog 17 #[.slice A l.length c] w fun e w' => ∃ v, e = .returned v ∧ OwnO w' w.heap.size v l ∧ Below w.heap.size w w' := by
  obtain ⟨i0, hi0, hz0, hz1, hz2⟩ := info_parts info_op
  go_enter Try.func17, Try.ntmps17
  go_wp2
  go_loopw [3, 4] (fun v i wr => ∃ (j : Nat), j ≤ l.length ∧ i = .int .i64 (j : Int) ∧ OwnO wr w.heap.size v (l.take j) ∧ Below w.heap.size w wr) (fun _ i _ => l.length - (intOf i).toNat)
  case atStart => exact ⟨0, by omega, rfl, World.ownsRow_nil _ _ _ _, Below.refl _ _⟩
  case round =>
    obtain ⟨j, hj, rfl, hown, hb⟩ := hrel
    by_cases hlt : j < l.length
    · obtain ⟨b, off, rfl, hbB, hcell⟩ := ho (by omega)
      obtain ⟨hk, hs⟩ := hcell j hlt
      obtain ⟨kd, hkd⟩ : ∃ kd, kd = l[j].1 := ⟨_, rfl⟩
      obtain ⟨sz, hsz⟩ : ∃ sz, sz = l[j].2 := ⟨_, rfl⟩
      have hk2 : wr.cell? ⟨b, off + j * 2, none⟩ = some (.int .i64 kd) := by rw [hkd]; exact (hb.cell (by exact hbB)).trans hk
      have hs2 : wr.cell? ⟨b, off + j * 2 + 1, none⟩ = some (.int .i64 sz) := by rw [hsz]; exact (hb.cell (by exact hbB)).trans hs
      obtain ⟨L, hL⟩ : ∃ L, L = l.take j := ⟨_, rfl⟩
      have hLl : L.length = j := by rw [hL]; simp; omega
      rw [← hL] at hown
      have hown' : wr.ownsRow w.heap.size 109 2 u3 j (opCells L) := by
        have := hown; unfold OwnO at this; rw [hLl] at this; exact this
      have hT : l.take (j + 1) = L ++ [(kd, sz)] := by rw [hL, hkd, hsz, List.take_succ_eq_append_getElem hlt]
      have HT := hide hT
      have HLL := hide hLl
      have hbsz := hb.size
      have hvne : u3.ownBlock ≠ some b := fun e => by have := (World.ownsRow.lt hown' b e).1; omega
      have hj0 : (0 : Int) ≤ (j : Int) := by omega
      have hj1 : (j : Int) < (l.length : Int) := by omega
      have HOWN := hide hown'
      clear hcell hkd hsz hk hs hL hLl hown hown' hT
      go_wp2
      go_region_held3 (fun w' => w'.cell? ⟨b, off + j * 2, none⟩ = some (.int .i64 kd) ∧ w'.cell? ⟨b, off + j * 2 + 1, none⟩ = some (.int .i64 sz))
        (first
          | go_keep
          | (go_split_ands
             refine ⟨?_, ?_⟩
             · (rw [hgrow.cell_far _ (by simp; omega) (Ne.symm hvne)]; exact (World.cell?_alloc_lt _ _ ⟨b, off + j * 2, none⟩ (by simp; omega)).trans hk2)
             · (rw [hgrow.cell_far _ (by simp; omega) (Ne.symm hvne)]; exact (World.cell?_alloc_lt _ _ ⟨b, off + j * 2 + 1, none⟩ (by simp; omega)).trans hs2)))
        ((refine step_append_lies _ (by rfl) _ _ _ (by rfl) w.heap.size 109 i0 _ 2 16 Try.underlying29 hi0 hz0 hz1 hz2 rfl (by omega) u3 j (opCells L) (by rfl) ((HOWN.out.alloc _).drew)
            ⟨wr.heap.size, 0, none⟩ 1 1 [.int .i64 kd, .int .i64 sz] (by rfl) (by rfl) (World.news_of_block (cs := #[.int .i64 kd, .int .i64 sz]) (t := 109) (fr := (0, 0)) (heap_alloc_new wr _)) (by simp [Value.oneCell'])
            (by omega) (by unfold maxLen; omega) (by omega) (by simp; omega) (wr.heap.size + 1) (by simp) ?_; intro gg cap w4 hown4 hgrow hat hlt4))
      have hown5 : OwnO w4 w.heap.size (.slice (some ⟨gg, 0, none⟩) (j + 1) cap) (l.take (j + 1)) := by
        unfold OwnO
        rw [HT.out, opCells_snoc, List.length_append, HLL.out]
        exact hown4
      have hb5 : Below w.heap.size w w4 := (hb.alloc hbsz _).drew.grown hgrow (by simp; omega) (fun k hk => (World.ownsRow.lt HOWN.out k hk).1)
      have HO5 := hide hown5
      clear hown4 hown5 hgrow hat hlt4 hk2 hs2
      go_wp2
      go_roundw
      case rel => exact ⟨j + 1, by omega, by go_num, HO5.out, hb5⟩
      case measure => simp [intOf]; omega
    · obtain rfl : j = l.length := by omega
      rw [List.take_length] at hown
      clear hlt
      go_wp2
      go_ret
      exact ⟨_, rfl, hown, hb⟩
end Go.Proofs.Ytgbmamahkpkdfaa
