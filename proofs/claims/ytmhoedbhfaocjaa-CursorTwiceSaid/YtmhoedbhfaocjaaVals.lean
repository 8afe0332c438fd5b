/-
  The walk of 'vals': what pieces were, with their bytes in new memory.
-/
import Derived.Test.YtmhoedbhfaocjaaLayC
namespace Go.Proofs.Ytmhoedbhfaocjaa
open Go.RowKit

/-- each of them lies, lent, in a block of its own. -/
def Lents (w : World) (items : List VItem) : Prop := ∀ it ∈ items, ∃ g, it.v = .slice (some ⟨g, 0, none⟩) it.b.length (it.b.length + 8) ∧ Lentd w g it.b
theorem Lents.rdC {w : World} {items : List VItem} (h : Lents w items) : RdC w w.heap.size items := fun it hit => by
  obtain ⟨g, e, hg⟩ := h it hit
  exact ⟨_, _, e, hg.byt hg.lt, fun e => by cases e⟩
theorem row_ne {w : World} {base : Nat} {v : Value} {n g : Nat} {xs : List Value} {cs : Array Value} {fr : Nat × Nat} (h : w.ownsRow base 40 2 v n xs) (hg : w.heap[g]? = some (.cells cs 5 fr)) : some g ≠ v.ownBlock := by
  rcases h.2 with ⟨rfl, _⟩ | ⟨g', cap, cur, rfl, _, hg', _⟩
  · simp [Value.ownBlock]
  · intro e
    simp [Value.ownBlock] at e
    subst e
    rw [hg] at hg'
    have := Option.some.inj hg'
    injection this with _ e2
    exact absurd e2 (by decide)

set_option maxRecDepth 100000 in
set_option maxHeartbeats 3200000 in
theorem vals_any (w : World) (A : Option Addr) (c : Nat) (l : List VItem) (hlen : l.length ≤ 4398046511104) (ho : RdV w w.heap.size A l) (hB : RdB w w.heap.size l) (hbl : ∀ it ∈ l, it.b.length ≤ 140737488351232) :
    Calls Try.prog 39 #[.slice A l.length c] w fun e w' => ∃ v items, e = .returned v ∧ w'.ownsRow w.heap.size 40 2 v items.length (itemCells items) ∧ RdC w' w'.heap.size items ∧ items.map (fun it => (it.N, it.b)) = l.map (fun it => (it.N, it.b)) ∧ Below w.heap.size w w' := by
  obtain ⟨i0, hi0, hz0, hz1, hz2⟩ := info_parts info_val
  go_enter Try.func39, Try.ntmps39
  go_wp2
  go_loopw [3, 4] (fun v i wr => ∃ (j : Nat) (items : List VItem), j ≤ l.length ∧ i = .int .i64 (j : Int) ∧ wr.ownsRow w.heap.size 40 2 v items.length (itemCells items) ∧ Hid (Lents wr items ∧ items.map (fun it => (it.N, it.b)) = (l.take j).map (fun it => (it.N, it.b))) ∧ Below w.heap.size w wr) (fun _ i _ => l.length - (intOf i).toNat)
  case atStart => exact ⟨0, [], by omega, rfl, World.ownsRow_nil _ _ _ _, hide ⟨fun it h => by simp at h, by simp⟩, Below.refl _ _⟩
  case round =>
    obtain ⟨j, items, hj, rfl, hown', hit, hb⟩ := hrel
    by_cases hlt : j < l.length
    · obtain ⟨b, off, rfl, hbB, hcell⟩ := ho (by omega)
      obtain ⟨hk, hs⟩ := hcell j hlt
      obtain ⟨Ai, ci, hvi, hcl, hby⟩ := hB l[j] (List.getElem_mem hlt)
      have hbj := hbl l[j] (List.getElem_mem hlt)
      obtain ⟨N, hN⟩ : ∃ N, N = l[j].N := ⟨_, rfl⟩
      obtain ⟨vb, hvb⟩ : ∃ vb, vb = l[j].b := ⟨_, rfl⟩
      rw [← hvb] at hvi hby hbj hcl
      have hk2 : wr.cell? ⟨b, off + j * 2, none⟩ = some (.int .u64 (N : Int)) := by rw [hN]; exact (hb.cell (by exact hbB)).trans hk
      have hs2 : wr.cell? ⟨b, off + j * 2 + 1, none⟩ = some (.slice Ai vb.length ci) := by rw [← hvi]; exact (hb.cell (by exact hbB)).trans hs
      have hj0 : (0 : Int) ≤ (j : Int) := by omega
      have hj1 : (j : Int) < (l.length : Int) := by omega
      have HOWN := hide hown'
      have HCL := hide hcl
      clear hcell hk hs
      have HN := hide hN
      have HVB := hide hvb
      have HBY := hide hby
      clear hN hvb hby hown' hvi hcl
      have hil : items.length < 4398046511104 := by
        have e := congrArg List.length hit.out.2
        simp at e
        omega
      have hbsz := hb.size
      have hbyr : Byt wr w.heap.size Ai vb := HBY.out.below hb
      have HBYR := hide hbyr
      obtain ⟨Lc, hLc⟩ : ∃ Lc, Lc = itemCells items := ⟨_, rfl⟩
      rw [← hLc] at HOWN
      have HLC := hide hLc
      clear hbyr hLc
      go_wp2
      go_region_held3 (fun w' => w'.cell? ⟨b, off + j * 2, none⟩ = some (.int .u64 (N : Int)) ∧ w'.cell? ⟨b, off + j * 2 + 1, none⟩ = some (.slice Ai vb.length ci))
        (first
          | go_keep
          | (go_split_ands
             refine ⟨?_, ?_⟩
             · (rw [hgrow.cell_far _ (by simp; omega) (Ne.symm hvne)]; exact (World.cell?_alloc_lt _ _ ⟨b, off + j * 2, none⟩ (by simp; omega)).trans p0)
             · (rw [hgrow.cell_far _ (by simp; omega) (Ne.symm hvne)]; exact (World.cell?_alloc_lt _ _ ⟨b, off + j * 2 + 1, none⟩ (by simp; omega)).trans p1)))
        (first
          | (go_at_call 15
             refine (lent_any Ai ci vb w.heap.size _ HCL.out (by omega) (by exact HBYR.out) (by simp; omega)).mono ?_
             rintro e w3 ⟨rfl, hle3, hb3⟩
             have HB3 : Hid (Below wr.heap.size wr w3) := hide (below_undrew hb3)
             have HLE3 : Hid (Lentd w3 wr.heap.size vb) := hide hle3
             have p0 := (HB3.out.cell (p := ⟨b, off + j * 2, none⟩) (by show b < _; omega)).trans hk2
             have p1 := (HB3.out.cell (p := ⟨b, off + j * 2 + 1, none⟩) (by show b < _; omega)).trans hs2
             have HOWN3 := hide (World.ownsRow.kept HOWN.out (Below.row HB3.out none) (Classical.em _))
             have h3z := HB3.out.size
             have hvne : u3.ownBlock ≠ some b := fun e => by have := (World.ownsRow.lt HOWN.out b e).1; omega
             clear hle3 hb3)
          | ((refine step_append_lies _ (by rfl) _ _ _ (by rfl) w.heap.size 40 i0 _ 2 32 Try.underlying25 hi0 hz0 hz1 hz2 rfl (by omega) u3 items.length Lc (by rfl) ((HOWN3.out.alloc _).drew) ⟨w3.heap.size, 0, none⟩ 1 1 [.int .u64 (N : Int), .slice (some ⟨wr.heap.size, 0, none⟩) vb.length (vb.length + 8)] (by rfl) (by rfl) (World.news_of_block (cs := #[.int .u64 (N : Int), .slice (some ⟨wr.heap.size, 0, none⟩) vb.length (vb.length + 8)]) (t := 40) (fr := (0, 0)) (heap_alloc_new w3 _)) (by simp [Value.oneCell']) (by omega) (by unfold maxLen; omega) (by omega) (by simp; omega) (w3.heap.size + 1) (by simp) ?_; intro gg cap w4 hown4 hgrow hat hlt4)))
      have hkeepL : ∀ (g : Nat) (cs : Array Value) (fr : Nat × Nat), w3.heap[g]? = some (Obj.cells cs 5 fr) → w4.heap[g]? = some (Obj.cells cs 5 fr) := fun g cs fr hg => by
        have hlt3 : g < w3.heap.size := (Array.getElem?_eq_some_iff.1 hg).1
        exact (hgrow.block g (by simp; omega) (row_ne HOWN3.out hg)).trans ((Below.heap_alloc w3 _ g hlt3).trans hg)
      have hnew : Lents w4 (items ++ [VItem.mk N (.slice (some ⟨wr.heap.size, 0, none⟩) vb.length (vb.length + 8)) vb]) := fun it hmem => by
        rcases List.mem_append.1 hmem with h | h
        · obtain ⟨g, e, hg⟩ := hit.out.1 it h
          exact ⟨g, e, hkeepL g _ _ (hg.below HB3.out hg.lt)⟩
        · simp at h
          subst h
          exact ⟨wr.heap.size, rfl, hkeepL _ _ _ HLE3.out⟩
      have hmap : (items ++ [VItem.mk N (.slice (some ⟨wr.heap.size, 0, none⟩) vb.length (vb.length + 8)) vb]).map (fun it => (it.N, it.b)) = (l.take (j + 1)).map (fun it => (it.N, it.b)) := by
        rw [List.take_succ_eq_append_getElem hlt, List.map_append, List.map_append, hit.out.2]
        simp [HN.out, HVB.out]
      have hown5 : w4.ownsRow w.heap.size 40 2 (.slice (some ⟨gg, 0, none⟩) (items.length + 1) cap) (items ++ [VItem.mk N (.slice (some ⟨wr.heap.size, 0, none⟩) vb.length (vb.length + 8)) vb]).length (itemCells (items ++ [VItem.mk N (.slice (some ⟨wr.heap.size, 0, none⟩) vb.length (vb.length + 8)) vb])) := by
        rw [itemCells_snoc, List.length_append, ← HLC.out]
        exact hown4
      have hb5 : Below w.heap.size w w4 := ((hb.trans (HB3.out.mono hbsz)).alloc (by omega) _).grown hgrow (by simp; omega) (fun k hk => (World.ownsRow.lt HOWN3.out k hk).1)
      have HNEW := hide (And.intro hnew hmap)
      have HO5 := hide hown5
      have HB5 := hide hb5
      clear hnew hmap hown5 hb5 hown4 hgrow hat hlt4 hkeepL p0 p1 hk2 hs2 hit
      go_wp2
      go_roundw
      case rel => exact ⟨j + 1, _, by omega, by go_num, HO5.out, HNEW, HB5.out⟩
      case measure => simp [intOf]; omega
    · obtain rfl : j = l.length := by omega
      have hit2 := hit.out
      rw [List.take_length] at hit2
      have HIT := hide hit2
      clear hlt hit hit2
      go_wp2
      go_ret
      exact ⟨_, items, rfl, hown', HIT.out.1.rdC, HIT.out.2, hb⟩
end Go.Proofs.Ytmhoedbhfaocjaa
