/-
  The walks of 'told' and 'Same': what was read, in the document's own form; that two such lists are alike.
-/
import Derived.Test.YtgbmamahkpkdfaaOps
namespace Go.Proofs.Ytgbmamahkpkdfaa
open Go.RowKit
set_option maxRecDepth 100000

/-- the slice that begins at A reads, below block B, as things that were read. -/
def RdV (w : World) (B : Nat) (A : Option Addr) (items : List VItem) : Prop :=
  0 < items.length → ∃ b off, A = some ⟨b, off, none⟩ ∧ b < B ∧ ∀ i (h : i < items.length), w.cell? ⟨b, off + i * 2, none⟩ = some (.int .u64 (items[i].N : Int)) ∧ w.cell? ⟨b, off + i * 2 + 1, none⟩ = some items[i].v
/-- each of their slices reads as its bytes. -/
def RdB (w : World) (B : Nat) (items : List VItem) : Prop := ∀ it ∈ items, ∃ A c, it.v = .slice A it.b.length c ∧ it.b.length ≤ c ∧ Byt w B A it.b
theorem RdV.keep {w w' : World} {B B' : Nat} {A : Option Addr} {l : List VItem} (h : RdV w B A l) (hB : B ≤ B') (hk : ∀ p : Addr, p.block < B → w'.cell? p = w.cell? p) : RdV w' B' A l := fun hl => by
  obtain ⟨b, off, e, hb, hc⟩ := h hl
  exact ⟨b, off, e, by omega, fun i hi => ⟨(hk _ hb).trans (hc i hi).1, (hk _ hb).trans (hc i hi).2⟩⟩
theorem RdB.keep {w w' : World} {B B' : Nat} {l : List VItem} (h : RdB w B l) (hB : B ≤ B') (hk : ∀ p : Addr, p.block < B → w'.cell? p = w.cell? p) : RdB w' B' l := fun it hit => by
  obtain ⟨A, c, e, hl, hb⟩ := h it hit
  exact ⟨A, c, e, hl, (hb.keep hk).more hB⟩
theorem OwnV.reads {w : World} {base : Nat} {vv : Value} {items : List VItem} (h : OwnV w base vv items) : ∃ A c, vv = .slice A items.length c ∧ RdV w w.heap.size A items ∧ RdB w w.heap.size items := by
  obtain ⟨A, c, e, _, hc⟩ := h.shape
  refine ⟨A, c, e, fun hp => ?_, fun it hit => ?_⟩
  · obtain ⟨gg, e1, _, hlt, hcell⟩ := hc hp
    refine ⟨gg, 0, e1, hlt, fun i hi => ?_⟩
    rw [Nat.zero_add]; exact hcell i hi
  · obtain ⟨A', c', e1, hl, hby, _, _⟩ := (h.each it hit).shape
    exact ⟨A', c', e1, hl, hby⟩

theorem itemCells_snoc (l : List VItem) (o : VItem) : itemCells (l ++ [o]) = itemCells l ++ [.int .u64 (o.N : Int), o.v] := by simp [itemCells]
theorem itemCells_get : ∀ (l : List VItem) (j : Nat) (h : j < l.length), (itemCells l)[j * 2]? = some (.int .u64 (l[j].N : Int)) ∧ (itemCells l)[j * 2 + 1]? = some l[j].v
  | [], j, h => by simp at h
  | x :: t, 0, _ => ⟨rfl, rfl⟩
  | x :: t, j + 1, h => by
    have := itemCells_get t j (by simp at h; omega)
    rw [itemCells, List.flatMap_cons, ← itemCells, show (j + 1) * 2 = j * 2 + 2 from by omega, show j * 2 + 2 + 1 = j * 2 + 1 + 2 from by omega]
    simpa using this
/-- a row of the call's own, of whatever type of two cells, reads as what it holds. -/
theorem row_reads {w : World} {base : Nat} {e : TypeId} {v : Value} {items : List VItem} (h : w.ownsRow base e 2 v items.length (itemCells items)) : ∃ A c, v = .slice A items.length c ∧ RdV w w.heap.size A items := by
  rcases h.2 with ⟨rfl, h0⟩ | ⟨gg, cap, cur, rfl, hb, hg, hn, hm, hsz, ht⟩
  · exact ⟨none, 0, by rw [h0], fun hp => by omega⟩
  · refine ⟨some ⟨gg, 0, none⟩, cap, rfl, fun _ => ⟨gg, 0, rfl, (Array.getElem?_eq_some_iff.1 hg).1, fun i hi => ?_⟩⟩
    obtain ⟨h1, h2⟩ := itemCells_get items i hi
    have hc : ∀ i, i < items.length * 2 → w.cell? ⟨gg, i, none⟩ = (itemCells items)[i]? := fun i hi => World.ownsRow.cellAt (g := gg) (cap := cap) h i hi
    rw [Nat.zero_add]
    exact ⟨(hc _ (by omega)).trans h1, (hc _ (by omega)).trans h2⟩

theorem info_rval : (Try.prog.info? 112).map (fun i => (i.zero, i.size, i.bytes)) = some (some (.agg #[.int .u64 0, .slice none 0 0]), 2, 32) := by kernel_rfl

set_option maxRecDepth 100000 in
set_option maxHeartbeats 3200000 in
theorem told_any (w : World) (A : Option Addr) (c : Nat) (l : List VItem) (hlen : l.length ≤ 1099511627776) (ho : RdV w w.heap.size A l) (hB : RdB w w.heap.size l) :
    Calls Try.prog 20 #[.slice A l.length c] w fun e w' => ∃ v, e = .returned v ∧ w'.ownsRow w.heap.size 112 2 v l.length (itemCells l) ∧ Below w.heap.size w w' := by
  obtain ⟨i0, hi0, hz0, hz1, hz2⟩ := info_parts info_rval
  have hend : l.take l.length = l := List.take_length
  have HEND := hide hend
  clear hend
  go_enter Try.func20, Try.ntmps20
  go_wp2
  go_loopw [3, 4] (fun v i wr => ∃ (j : Nat), j ≤ l.length ∧ i = .int .i64 (j : Int) ∧ wr.ownsRow w.heap.size 112 2 v j (itemCells (l.take j)) ∧ Below w.heap.size w wr) (fun _ i _ => l.length - (intOf i).toNat)
  case atStart => exact ⟨0, by omega, rfl, World.ownsRow_nil _ _ _ _, Below.refl _ _⟩
  case round =>
    obtain ⟨j, hj, rfl, hown', hb⟩ := hrel
    by_cases hlt : j < l.length
    · obtain ⟨b, off, rfl, hbB, hcell⟩ := ho (by omega)
      obtain ⟨hk, hs⟩ := hcell j hlt
      obtain ⟨Ai, ci, hvi, _, _⟩ := hB l[j] (List.getElem_mem hlt)
      obtain ⟨N, hN⟩ : ∃ N, N = l[j].N := ⟨_, rfl⟩
      obtain ⟨m, hm⟩ : ∃ m, m = l[j].b.length := ⟨_, rfl⟩
      rw [← hm] at hvi
      have hk2 : wr.cell? ⟨b, off + j * 2, none⟩ = some (.int .u64 (N : Int)) := by rw [hN]; exact (hb.cell (by exact hbB)).trans hk
      have hs2 : wr.cell? ⟨b, off + j * 2 + 1, none⟩ = some (.slice Ai m ci) := by rw [← hvi]; exact (hb.cell (by exact hbB)).trans hs
      obtain ⟨L, hL⟩ : ∃ L, L = itemCells (l.take j) := ⟨_, rfl⟩
      have hT : itemCells (l.take (j + 1)) = L ++ [.int .u64 (N : Int), .slice Ai m ci] := by rw [List.take_succ_eq_append_getElem hlt, itemCells_snoc, hL, hN, hvi]
      rw [← hL] at hown'
      have HT := hide hT
      have hbsz := hb.size
      have hvne : u3.ownBlock ≠ some b := fun e => by have := (World.ownsRow.lt hown' b e).1; omega
      have hj0 : (0 : Int) ≤ (j : Int) := by omega
      have hj1 : (j : Int) < (l.length : Int) := by omega
      have HOWN := hide hown'
      clear hcell hk hs hL hown' hT hN hm hvi
      go_wp2
      go_region_held3 (fun w' => w'.cell? ⟨b, off + j * 2, none⟩ = some (.int .u64 (N : Int)) ∧ w'.cell? ⟨b, off + j * 2 + 1, none⟩ = some (.slice Ai m ci))
        (first
          | go_keep
          | (go_split_ands
             refine ⟨?_, ?_⟩
             · (rw [hgrow.cell_far _ (by simp; omega) (Ne.symm hvne)]; exact (World.cell?_alloc_lt _ _ ⟨b, off + j * 2, none⟩ (by simp; omega)).trans hk2)
             · (rw [hgrow.cell_far _ (by simp; omega) (Ne.symm hvne)]; exact (World.cell?_alloc_lt _ _ ⟨b, off + j * 2 + 1, none⟩ (by simp; omega)).trans hs2)))
        ((refine step_append_lies _ (by rfl) _ _ _ (by rfl) w.heap.size 112 i0 _ 2 32 Try.underlying31 hi0 hz0 hz1 hz2 rfl (by omega) u3 j L (by rfl) ((HOWN.out.alloc _).drew)
            ⟨wr.heap.size, 0, none⟩ 1 1 [.int .u64 (N : Int), .slice Ai m ci] (by rfl) (by rfl) (World.news_of_block (cs := #[.int .u64 (N : Int), .slice Ai m ci]) (t := 112) (fr := (0, 0)) (heap_alloc_new wr _)) (by simp [Value.oneCell'])
            (by omega) (by unfold maxLen; omega) (by omega) (by simp; omega) (wr.heap.size + 1) (by simp) ?_; intro gg cap w4 hown4 hgrow hat hlt4))
      have hown5 : w4.ownsRow w.heap.size 112 2 (.slice (some ⟨gg, 0, none⟩) (j + 1) cap) (j + 1) (itemCells (l.take (j + 1))) := by
        rw [HT.out]
        exact hown4
      have hb5 : Below w.heap.size w w4 := (hb.alloc hbsz _).drew.grown hgrow (by simp; omega) (fun k hk => (World.ownsRow.lt HOWN.out k hk).1)
      have HO5 := hide hown5
      clear hown4 hown5 hgrow hat hlt4 hk2 hs2
      go_wp2
      go_roundw
      case rel => exact ⟨j + 1, by omega, by go_num, HO5.out, hb5⟩
      case measure => simp [intOf]; omega
    · obtain rfl : j = l.length := by omega
      rw [HEND.out] at hown'
      clear hlt
      go_wp2
      go_ret
      exact ⟨_, rfl, hown', hb⟩

set_option maxRecDepth 100000 in
set_option maxHeartbeats 3200000 in
theorem same_any (w : World) (A B : Option Addr) (c d : Nat) (l m : List VItem) (hlm : l.map (fun it => (it.N, it.b)) = m.map (fun it => (it.N, it.b))) (hlen : l.length ≤ 1099511627776) (hl : RdV w w.heap.size A l) (hm : RdV w w.heap.size B m) (hlB : RdB w w.heap.size l) (hmB : RdB w w.heap.size m) :
    Calls Try.prog 19 #[.slice A l.length c, .slice B m.length d] w fun e w' => e = .returned (.bool true) ∧ ∃ q, w' = w.drewN q := by
  have hml : m.length = l.length := by have := congrArg List.length hlm; simpa using this.symm
  rw [hml]
  have HML := hide hml
  have HLM := hide hlm
  clear hml hlm
  go_enter Try.func19, Try.ntmps19
  go_wp2
  go_loopw [5] (fun i wr => ∃ (j : Nat), j ≤ l.length ∧ i = .int .i64 (j : Int) ∧ Hid (∃ q, wr = w.drewN q)) (fun i _ => l.length - (intOf i).toNat)
  case atStart => exact ⟨0, by omega, rfl, hide ⟨0, rfl⟩⟩
  case round =>
    obtain ⟨j, hj, rfl, hq⟩ := hrel
    by_cases hlt : j < l.length
    · obtain ⟨q0, hq0⟩ := hq.out
      have HQ := hide hq0
      obtain ⟨b, off, rfl, _, hcell⟩ := hl (by omega)
      obtain ⟨b', off', rfl, _, hcell'⟩ := hm (by have := HML.out; omega)
      have hltm : j < m.length := by have := HML.out; omega
      obtain ⟨hk, hs⟩ := hcell j hlt
      obtain ⟨hk', hs'⟩ := hcell' j hltm
      have hpair : (l[j].N, l[j].b) = (m[j].N, m[j].b) := by
        have := congrArg (fun x => x[j]?) HLM.out
        simpa [List.getElem?_eq_getElem hlt, List.getElem?_eq_getElem hltm] using this
      simp only [Prod.mk.injEq] at hpair
      obtain ⟨Ai, ci, hvi, _, hby⟩ := hlB l[j] (List.getElem_mem hlt)
      obtain ⟨Bi, di, hwi, _, hby'⟩ := hmB m[j] (List.getElem_mem hltm)
      rw [hvi] at hs
      rw [hwi] at hs'
      rw [← hpair.1] at hk'
      rw [← hpair.2] at hs' hby'
      obtain ⟨N, hN⟩ : ∃ N, N = l[j].N := ⟨_, rfl⟩
      obtain ⟨bb, hbb⟩ : ∃ bb, bb = l[j].b := ⟨_, rfl⟩
      rw [← hN] at hk hk'
      rw [← hbb] at hs hs' hby hby'
      have hk2 : wr.cell? ⟨b, off + j * 2, none⟩ = some (.int .u64 (N : Int)) := by rw [hq0]; exact hk
      have hs2 : wr.cell? ⟨b, off + j * 2 + 1, none⟩ = some (.slice Ai bb.length ci) := by rw [hq0]; exact hs
      have hk3 : wr.cell? ⟨b', off' + j * 2, none⟩ = some (.int .u64 (N : Int)) := by rw [hq0]; exact hk'
      have hs3 : wr.cell? ⟨b', off' + j * 2 + 1, none⟩ = some (.slice Bi bb.length di) := by rw [hq0]; exact hs'
      have v1 := fun n => conv_any Ai ci bb w.heap.size (wr.drewN n) (by rw [hq0]; exact (hby.drewN q0).drewN n)
      have v2 := fun n => conv_any Bi di bb w.heap.size (wr.drewN n) (by rw [hq0]; exact (hby'.drewN q0).drewN n)
      have hNe : ((N : Int) != (N : Int)) = false := by simp
      have hj0 : (0 : Int) ≤ (j : Int) := by omega
      have hj1 : (j : Int) < (l.length : Int) := by omega
      clear hcell hcell' hk hs hk' hs' hpair hvi hwi hN hbb hby hby' hq hq0
      go_wp2
      go_quiet (trivial)
      go_wp2
      go_roundw
      case rel => exact ⟨j + 1, by omega, by go_num, hide ⟨q0 + nq, by rw [HQ.out, World.drewN_drewN]⟩⟩
      case measure => simp [intOf]; omega
    · go_wp2
      go_ret
      exact ⟨rfl, hq.out⟩
end Go.Proofs.Ytgbmamahkpkdfaa
