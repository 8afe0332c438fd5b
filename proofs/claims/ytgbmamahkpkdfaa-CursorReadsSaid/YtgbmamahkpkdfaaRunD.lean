/-
  The walk of the closure that Run hands on: piece after piece, up to the first error.
-/
import Derived.Test.YtgbmamahkpkdfaaRunC
namespace Go.Proofs.Ytgbmamahkpkdfaa
open Go.RowKit
set_option maxRecDepth 100000

set_option maxHeartbeats 4000000 in
theorem runC_any (w : World) (g bl bv : Nat) (A Al : Option Addr) (l : List UInt8) (c cl k0 : Nat) (ops : List (Int × Int)) (h : Rd w g A l.length c k0 0) (hk0 : k0 ≤ l.length) (hl : l.length ≤ c) (hn : l.length ≤ 140737488355328) (hb : Byt w g A l)
    (hops : Ops w g Al ops) (hno : ops.length ≤ 1099511627776) (hbl : w.heap[bl]? = some (.cells #[.slice Al ops.length cl] 29 (0, 0))) (hbv : w.heap[bv]? = some (.cells #[.slice none 0 0] 25 (0, 0))) (hgv : g < bv) :
    Calls Try.prog 66 #[.pointer (some ⟨bl, 0, none⟩), .pointer (some ⟨bv, 0, none⟩), .pointer (some ⟨g, 0, none⟩)] w fun e w' => RunCPost w g bv A l.length c (runS l ops k0) e w' := by
  have hcl : w.cell? ⟨bl, 0, none⟩ = some (.slice Al ops.length cl) := cell_of_row w bl 0 _ _ (0, 0) hbl
  obtain ⟨i0, hi0, hz0, hz1, hz2⟩ := info_parts info_val
  have hglt : g < w.heap.size := h.lt
  have hinv := RunInv.start h hbv
  have HRES : Hid (runS l ops k0 = ([] ++ (runS l (ops.drop 0) k0).1, (runS l (ops.drop 0) k0).2)) := hide (by simp)
  obtain ⟨res, hres⟩ : ∃ res, res = runS l ops k0 := ⟨_, rfl⟩
  rw [← hres] at HRES ⊢
  clear hres hbv
  go_enter Try.func66, Try.ntmps66
  go_wp2
  go_loopw [4, 7] (fun _ i wr => ∃ (j k : Nat) (vv : Value) (items : List VItem), j ≤ ops.length ∧ i = .int .i64 (j : Int) ∧ k ≤ l.length ∧ items.length ≤ j ∧ RunInv w wr g bv A l.length c k vv items ∧
      Hid (res = (items.map (fun it => (it.N, it.b)) ++ (runS l (ops.drop j) k).1, (runS l (ops.drop j) k).2))) (fun _ i _ => ops.length - (intOf i).toNat)
  case atStart => exact ⟨0, k0, _, [], by omega, rfl, hk0, Nat.le_refl _, hinv, HRES⟩
  case round =>
    obtain ⟨j, k, vv, items, hj, rfl, hk, hil, hI, hr⟩ := hrel
    clear hinv HRES hcl
    by_cases hlt : j < ops.length
    · obtain ⟨b, off, rfl, hbB, hcell⟩ := hops (by omega)
      have hnb : b ≠ bv := by omega
      obtain ⟨hk1, hs1⟩ := hcell j hlt
      have hbw : ∀ o, wr.cell? ⟨b, o, none⟩ = w.cell? ⟨b, o, none⟩ := fun o => World.cell?_of_block (w := w) (hI.fr.block b (by omega) (by omega) hnb)
      obtain ⟨kd, hkd⟩ : ∃ kd, kd = ops[j].1 := ⟨_, rfl⟩
      obtain ⟨sz, hsz⟩ : ∃ sz, sz = ops[j].2 := ⟨_, rfl⟩
      have hk2 : wr.cell? ⟨b, off + j * 2, none⟩ = some (.int .i64 kd) := by rw [hbw, hkd]; exact hk1
      have hs2 : wr.cell? ⟨b, off + j * 2 + 1, none⟩ = some (.int .i64 sz) := by rw [hbw, hsz]; exact hs1
      have hdrop : runS l (ops.drop j) k = (match pieceS l k kd sz with
          | .gave er => ([], k, er)
          | .got N b m => ((N, b) :: (runS l (ops.drop (j + 1)) (k + m)).1, (runS l (ops.drop (j + 1)) (k + m)).2)) := by
        rw [List.drop_eq_getElem_cons hlt, hkd, hsz]; rfl
      have hbyr : Byt wr g A l := hb.keep (fun p hp => World.cell?_of_block (w := w) (hI.fr.block p.block (by omega) (by omega) (by omega)))
      have hvv : wr.cell? ⟨bv, 0, none⟩ = some vv := cell_of_row wr bv 0 _ _ (0, 0) hI.box
      have hgr := hI.rd.lt
      have hbvr : bv < wr.heap.size := (Array.getElem?_eq_some_iff.1 hI.box).1
      have hpc : ∀ n, Calls Try.prog 67 #[.pointer (some ⟨g, 0, none⟩), .agg #[.int .i64 kd, .int .i64 sz]] ((wr.alloc (.cells #[.int .i64 kd, .int .i64 sz] 109)).drewN n) fun e w' => PiecePost ((wr.alloc (.cells #[.int .i64 kd, .int .i64 sz] 109)).drewN n) g A l c k 0 (pieceS l k kd sz) e w' := fun n =>
        piece_any _ g A l c k 0 kd sz ((hI.rd.alloc _).drewN n) hk hl hn ((hbyr.keep (fun p hp => World.cell?_alloc_lt wr _ p (by omega))).drewN n)
      have HPC := hide hpc
      have HD := hide hdrop
      clear hcell hkd hsz hk1 hs1 hbw hdrop hpc hbyr
      cases hp : pieceS l k kd sz with
      | gave er =>
        have hne := pieceS_gave hp
        have HPG : Hid (∀ n, Calls Try.prog 67 #[.pointer (some ⟨g, 0, none⟩), .agg #[.int .i64 kd, .int .i64 sz]] ((wr.alloc (.cells #[.int .i64 kd, .int .i64 sz] 109)).drewN n) fun e w' => e = giveUp er ∧ Below wr.heap.size wr w') := hide (fun n => by
          have := HPC.out n
          rw [hp] at this
          exact this.mono fun e w' ⟨h1, h2⟩ => ⟨h1, ((below_drewN ((Below.refl _ _).alloc (Nat.le_refl _) _) n).trans (h2.mono (by simp)))⟩)
        have hend : ∀ w', Below wr.heap.size wr w' → RunCPost w g bv A l.length c res (giveUp er) w' := fun w' hbel => by
          refine ⟨vv, items, ?_, ?_, .inr ⟨?_, ?_⟩⟩
          · rw [hr.out, HD.out, hp]; exact hI.below hbel
          · rw [hr.out, HD.out, hp]; simp
          · rw [hr.out, HD.out, hp]; exact hne
          · rw [hr.out, HD.out, hp]
        have HE := hide hend
        clear hp HPC hend hr HD
        go_wp2
        refine wp_region_any (by kernel_rfl) ?_
        try (change wpAny _ _ _ _ _ _ _ (World.drew _))
        refine wpAny_ready (rs := [0, 1]) (by kernel_rfl) (by simp) ?_
        refine AllReady.cons rfl (fun K hK => ?_) ?_
        · go_simp
          refine hK _ _ ?_
          clear hK K
          refine wpAny_ready (rs := [1]) (by kernel_rfl) (by simp) ?_
          refine AllReady.cons rfl (fun K hK => ?_) AllReady.nil
          go_simp
          refine hK _ _ ?_
          clear hK K
          refine wpAny_ready (rs := [2]) (by kernel_rfl) (by simp) ?_
          refine AllReady.cons rfl (fun K hK => ?_) AllReady.nil
          go_simp
          go_wp2_with (go_at_call 67; refine (HPG.out 1).mono ?_; rintro e w1 ⟨rfl, hbel⟩; exact ⟨rfl, HE.out _ hbel⟩)
        · refine AllReady.cons rfl (fun K hK => ?_) AllReady.nil
          go_simp
          refine hK _ _ ?_
          clear hK K
          refine wpAny_ready (rs := [0, 2]) (by kernel_rfl) (by simp) ?_
          refine AllReady.cons rfl (fun K hK => ?_) ?_
          · go_simp
            refine hK _ _ ?_
            clear hK K
            refine wpAny_ready (rs := [2]) (by kernel_rfl) (by simp) ?_
            refine AllReady.cons rfl (fun K hK => ?_) AllReady.nil
            go_simp
            go_wp2_with (go_at_call 67; refine (HPG.out 1).mono ?_; rintro e w1 ⟨rfl, hbel⟩; exact ⟨rfl, HE.out _ hbel⟩)
          · refine AllReady.cons rfl (fun K hK => ?_) AllReady.nil
            go_simp
            go_wp2_with (go_at_call 67; refine (HPG.out 1).mono ?_; rintro e w1 ⟨rfl, hbel⟩; exact ⟨rfl, HE.out _ hbel⟩)
      | got N b' m =>
        have hkm := pieceS_le hp hk
        have HPS : Hid (∀ n, Calls Try.prog 67 #[.pointer (some ⟨g, 0, none⟩), .agg #[.int .i64 kd, .int .i64 sz]] ((wr.alloc (.cells #[.int .i64 kd, .int .i64 sz] 109)).drewN n) fun e w' =>
            (∃ A3 c3, e = .returned (.agg #[.int .u64 (N : Int), .slice A3 b'.length c3]) ∧ OwnB w' ((wr.alloc (.cells #[.int .i64 kd, .int .i64 sz] 109)).drewN n).heap.size (.slice A3 b'.length c3) b') ∧
            Rd w' g A l.length c (k + m) 0 ∧ ((wr.alloc (.cells #[.int .i64 kd, .int .i64 sz] 109)).drewN n).grownBy w' (some g)) := hide (fun n => by
          have := HPC.out n
          rw [hp] at this
          refine this.mono fun e w' ⟨⟨v, h1, h2⟩, h3, h4⟩ => ?_
          obtain ⟨A3, c3, rfl, _⟩ := h2.shape
          exact ⟨⟨A3, c3, h1, h2⟩, h3, h4⟩)
        have hr' : res = ((items ++ [(⟨N, .slice none 0 0, b'⟩ : VItem)]).map (fun (it : VItem) => (it.N, it.b)) ++ (runS l (ops.drop (j + 1)) (k + m)).1, (runS l (ops.drop (j + 1)) (k + m)).2) := by
          rw [hr.out, HD.out, hp]; simp
        have HR := hide hr'
        have hcv : (wr.alloc (.cells #[.int .i64 kd, .int .i64 sz] 109)).cell? ⟨bv, 0, none⟩ = some vv := (World.cell?_alloc_lt wr _ ⟨bv, 0, none⟩ hbvr).trans hvv
        have HI := hide hI
        have HVO : Hid (some wr.heap.size ≠ vv.ownBlock) := hide (fun e => by have := (hI.own.row.lt _ e.symm).2; omega)
        have HO2 := hide (two_cells wr (.int .i64 kd) (.int .i64 sz) 109)
        have hgne : g ≠ bv := by omega
        have hbase : w.heap.size ≤ wr.heap.size := hI.fr.size
        clear hp HPC hr' hr HD hI hvv
        go_wp2
        clear hk2 hs2
        go_region_law (first
            | (refine step_append_lies _ (by rfl) _ _ _ (by rfl) w.heap.size 40 i0 _ 2 32 Try.underlying25 hi0 hz0 hz1 hz2 rfl (by omega) vv items.length (itemCells items) (by rfl) (HB4.out w2).2.1.row ⟨w2.heap.size, 0, none⟩ 1 1 [.int .u64 (N : Int), .slice A3 b'.length c3] (by rfl) (by rfl) (World.news_of_block (cs := #[.int .u64 (N : Int), .slice A3 b'.length c3]) (t := 40) (fr := (0, 0)) (heap_alloc_new w2 _)) (by simp [Value.oneCell']) (by omega) (by unfold maxLen; omega) (by omega) (by have := hg2.size; simp at this; simp; omega) (w2.heap.size + 1) (by simp) ?_; intro gg cap w4 hown4 hgrow4 hat4 hlt4; have hs0' := one_cell ((HB4.out w4).2.2 hgrow4); have hf0' := frozen_of_row w4 bv 0 _ _ ((HB4.out w4).2.2 hgrow4))
            | (go_simp; go_at_call 67; refine (HPS.out 1).mono ?_; rintro e w2 ⟨⟨A3, c3, rfl, hown2⟩, hR2, hg2⟩; have hs0 := one_cell (HI.out.box4 (w4 := w2) (o' := .cells #[.int .u64 (N : Int), .slice A3 b'.length c3] 40) hgne hg2).1; have hs0a := fun o => (World.cell?_alloc_lt w2 o ⟨bv, 0, none⟩ (World.block_lt_of_cell? w2 _ hs0)).trans hs0; have HB4 := hide (fun w4 => HI.out.box4 (w4 := w4) (o' := .cells #[.int .u64 (N : Int), .slice A3 b'.length c3] 40) hgne hg2)))
        all_goals have hI' := HI.out.step (N := N) hgne hg2 hR2 hown2 hown4 hgrow4
        all_goals have HI' := hide hI'
        all_goals clear hI' hs0 hs0a hs0' hf0' hown4 hgrow4 hat4 hlt4 HB4 hg2 hR2 hown2 hcv
        all_goals go_wp2
        all_goals go_roundw
        all_goals try (case rel => exact ⟨j + 1, k + m, _, items ++ [(⟨N, .slice A3 b'.length c3, b'⟩ : VItem)], by omega, by go_num, hkm, by simp; omega, HI'.out, hide (by rw [HR.out]; simp)⟩)
        all_goals try (case measure => simp [intOf]; omega)
    · have hfin : RunCPost w g bv A l.length c res (.returned (.tuple #[])) wr := by
        have e : runS l (ops.drop j) k = ([], k, 0) := by rw [List.drop_of_length_le (by omega)]; rfl
        refine ⟨vv, items, ?_, ?_, .inl ⟨?_, rfl⟩⟩
        · rw [hr.out, e]; exact hI
        · rw [hr.out, e]; simp
        · rw [hr.out, e]
      have HF := hide hfin
      clear hfin hr
      go_wp2
      go_end0
      exact HF.out
end Go.Proofs.Ytgbmamahkpkdfaa
