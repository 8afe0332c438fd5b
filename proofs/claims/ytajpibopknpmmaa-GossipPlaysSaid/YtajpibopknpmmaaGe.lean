/-
  The keys of a map, in the order in which they are told: slices.SortedFunc over maps.Keys.
-/
import Derived.Test.YtajpibopknpmmaaGd
import Derived.Test.YtajpibopknpmmaaGs
import Derived.Test.YtajpibopknpmmaaOr
import Derived.Shelf.SlSortCmp.NoneTotal
import Derived.Shelf.SlIterI.Collect
import Derived.Lib.SlKeysI
namespace Go.Proofs.Ytajpibopknpmmaa
open Go.RowKit Go.Maps Go.Sort Go.Shelf Go.Lib
set_option maxRecDepth 100000
set_option linter.unusedVariables false
set_option linter.unusedSimpArgs false

theorem cmpQ_neg (L : List (Int × Nw)) (a b : Int) : cmpQ L a b < 0 ↔ (leftQ L b < leftQ L a ∨ (leftQ L a = leftQ L b ∧ a < b)) := by
  unfold cmpQ
  split
  · simp; omega
  · split
    · simp; omega
    · split
      · simp; omega
      · split
        · simp; omega
        · simp; omega
theorem ltOf_cmpQ (L : List (Int × Nw)) (a b : Int) : ltOf (cmpQ L) a b = decide (cmpQ L a b < 0) := rfl
theorem swo_cmpQ (L : List (Int × Nw)) : SWO (ltOf (cmpQ L)) where
  irrefl x := by rw [ltOf_cmpQ, decide_eq_false_iff_not, cmpQ_neg]; omega
  trans x y z h1 h2 := by
    rw [ltOf_cmpQ, decide_eq_true_eq, cmpQ_neg] at *; omega
  ntrans x y z h1 h2 := by
    rw [ltOf_cmpQ, decide_eq_false_iff_not, cmpQ_neg] at *; omega
theorem tot_cmpQ (L : List (Int × Nw)) (x y : Int) (h1 : ltOf (cmpQ L) x y = false) (h2 : ltOf (cmpQ L) y x = false) : x = y := by
  rw [ltOf_cmpQ, decide_eq_false_iff_not, cmpQ_neg] at *; omega
theorem ordQ_eq (L : List (Int × Nw)) (ks : List Int) : (ks.mergeSort fun x y => !(ltOf (cmpQ L)) y x) = ordQ L ks := rfl
theorem ordQ_perm (L : List (Int × Nw)) (ks : List Int) : (ordQ L ks).Perm ks := List.mergeSort_perm _ _
theorem ordQ_sorted (L : List (Int × Nw)) (ks : List Int) : (ordQ L ks).Pairwise (fun x y => ¬ cmpQ L y x < 0) := by
  have := List.pairwise_mergeSort (le := fun x y => !decide (cmpQ L y x < 0)) (fun a b c h1 h2 => by
    simp only [Bool.not_eq_true', decide_eq_false_iff_not, cmpQ_neg] at *; omega) (fun a b => by
    simp only [Bool.or_eq_true, Bool.not_eq_true', decide_eq_false_iff_not, cmpQ_neg]; omega) ks
  exact this.imp fun h => by simpa using h
/-- one order for whatever order they come in. -/
theorem ordQ_of_perm (L L' : List (Int × Nw)) {ks ks' : List Int} (h : ks.Perm ks') (hl : ∀ k, leftQ L k = leftQ L' k) : ordQ L ks = ordQ L' ks' := by
  have hc : ∀ a b, cmpQ L a b = cmpQ L' a b := fun a b => by unfold cmpQ; rw [hl, hl]
  refine List.Perm.eq_of_pairwise (le := fun a b => ¬ cmpQ L b a < 0) (fun a b _ _ h1 h2 => ?_) (ordQ_sorted L ks) ((ordQ_sorted L' ks').imp fun h => by rw [hc]; exact h) (((ordQ_perm L ks).trans h).trans (ordQ_perm L' ks').symm)
  rw [cmpQ_neg] at h1 h2
  omega
theorem heap_sortWorld (enc : Int → Value) (w : World) (blk off m : Nat) (d : Array Int) (os : Array Obj) (i : Nat) (hi : i < w.heap.size) (hne : i ≠ blk) : (sortWorld enc w blk off m d os).heap[i]? = w.heap[i]? := by
  unfold sortWorld
  rw [heap_grow_old _ _ (by rw [size_putRow]; exact hi)]
  unfold putRow mapBlock
  rw [Array.getElem?_modify, if_neg (fun e => hne e.symm)]
  rfl
theorem size_sortWorld_le (enc : Int → Value) (w : World) (blk off m : Nat) (d : Array Int) (os : Array Obj) : w.heap.size ≤ (sortWorld enc w blk off m d os).heap.size := by
  unfold sortWorld
  rw [size_grow, size_putRow]
  show w.heap.size ≤ w.heap.size + _
  omega
/-- the order's function, in all worlds that a sort comes to. -/
theorem order_lays (w w1 : World) (q mb : Nat) (most : Int) (L : List (Int × Nw)) (S : Nat → Prop) (c blk off size : Nat) (h : QueS w q mb most L S) (hb : Below w.heap.size w w1) (hblk : w.heap.size ≤ blk) (hcl : c < w.heap.size) (hc : w.cell? ⟨c, 0, none⟩ = some (.pointer (some ⟨q, 0, none⟩))) :
    CmpLays1 Try.prog 44 #[.pointer (some ⟨c, 0, none⟩)] (Value.int .i64) (cmpQ L) blk off size w1 := fun m os dk hs x y => by
  have hh : ∀ i, i < w.heap.size → (sortWorld (Value.int .i64) w1 blk off m dk os).heap[i]? = w.heap[i]? := fun i hi =>
    (heap_sortWorld _ w1 blk off m dk os i (Nat.lt_of_lt_of_le hi hb.size) (by omega)).trans (hb.block i hi)
  have hq : QueS (sortWorld (Value.int .i64) w1 blk off m dk os) q mb most L S := h.keep (fun i _ hi => hh i hi) (Nat.le_trans hb.size (size_sortWorld_le _ w1 blk off m dk os)) (fun _ hg => hg)
  have hc2 : (sortWorld (Value.int .i64) w1 blk off m dk os).cell? ⟨c, 0, none⟩ = some (.pointer (some ⟨q, 0, none⟩)) := by
    unfold World.cell? at hc ⊢
    rw [hh c hcl]; exact hc
  exact orderF_any _ q mb most L S c x y hq hc2
theorem keysQ_any (w : World) (mb : Nat) : Calls Try.prog 36 #[.map (some mb)] w fun e w' =>
    e = .returned (.func (.func 43) #[] #[.pointer (some ⟨w.heap.size, 0, none⟩)]) ∧ w' = w.alloc (.cells #[.map (some mb)] 57) :=
  callsIn_wide.1 (AnyZI.keys_in lay_keysK Fence.wide 5 trivial rfl (some mb) w)
theorem QueS.keysOk {w : World} {q mb : Nat} {most : Int} {L : List (Int × Nw)} {S : Nat → Prop} (h : QueS w q mb most L S) : ∃ V, MapS w mb V ∧ V.map (·.1) = L.map (·.1) ∧ KeysOk V := by
  obtain ⟨V, hV, hA⟩ := h.map
  refine ⟨V, hV, hA.keys, by rw [hA.keys]; exact h.ok.nodup, fun p hp => ?_⟩
  have : p.1 ∈ V.map (·.1) := List.mem_map.2 ⟨p, hp, rfl⟩
  rw [hA.keys] at this
  obtain ⟨x, hx, e⟩ := List.mem_map.1 this
  rw [← e]
  exact (h.ok.each x hx).1
theorem collectQ_any (w : World) (B q mb : Nat) (most : Int) (L : List (Int × Nw)) (S : Nat → Prop) (h : QueS w q mb most L S) (hB : B < w.heap.size) (hc : w.cell? ⟨B, 0, none⟩ = some (.map (some mb))) (hlen : L.length ≤ 4096) :
    Calls Try.prog 41 #[.func (.func 43) #[] #[.pointer (some ⟨B, 0, none⟩)]] w fun e w' =>
      ∃ (v : Value) (ss : List Int), e = .returned v ∧ ss.Perm (L.map (·.1)) ∧ w'.ownsRow w.heap.size 3 1 v ss.length (ss.map encZ) ∧ (v = .slice none 0 0 ↔ ss = []) ∧ Below w.heap.size w w' := by
  obtain ⟨V, hV, hk, hok⟩ := h.keysOk
  have hVl : V.length = L.length := by simpa using congrArg List.length hk
  obtain ⟨D, hown, hsz, hperm⟩ := hV.owns (P := Try.prog) (kt := 3) Try.underlying3 hok (by unfold maxLen; omega)
  have hseq : SeqGives Fence.wide 2 Try.prog 43 #[.pointer (some ⟨B, 0, none⟩)] encZ (fun ss => ss.Perm (intKeys D)) (Maps.size D) w :=
    AnyZI.keys_gives (ρ := lay_keysK_ren) { lay_keysK with } Fence.wide _ trivial rfl (by omega) B mb _ D w hB hc hown
  have := AnyZI.collect_in lay_collectK Fence.wide 4 trivial trivial rfl (by omega) 43 #[.pointer (some ⟨B, 0, none⟩)] trivial (enters_of Try.func43 (by kernel_rfl) rfl) _ _ (by rw [hsz]; unfold maxLen; omega) (by rw [hsz]; omega) w hseq
  refine (callsIn_wide.1 this).mono fun e w' hh => ?_
  obtain ⟨v, ss, he, hS, hrow, hnil, hb⟩ := hh
  exact ⟨v, ss, he, by rw [← hk]; exact hS.trans hperm, hrow, hnil, hb⟩
/-- the keys, in the order in which they are told. -/
theorem sortedF_any (w : World) (B c q mb : Nat) (most : Int) (L : List (Int × Nw)) (S : Nat → Prop) (h : QueS w q mb most L S) (hB : B < w.heap.size) (hc : w.cell? ⟨B, 0, none⟩ = some (.map (some mb))) (hlen : L.length ≤ 4096) (hcl : c < w.heap.size) (hcc : w.cell? ⟨c, 0, none⟩ = some (.pointer (some ⟨q, 0, none⟩))) :
    Calls Try.prog 35 #[.func (.func 43) #[] #[.pointer (some ⟨B, 0, none⟩)], .func (.func 44) #[] #[.pointer (some ⟨c, 0, none⟩)]] w fun e w' =>
      ∃ v, e = .returned v ∧ OwnR w' w.heap.size 3 v ((ordQ L (L.map (·.1))).map izV) ∧ Below w.heap.size w w' := by
  have KC := collectQ_any w B q mb most L S h hB hc hlen
  have HQ := hide h
  have hlay := fun w1 blk off size hb hblk => order_lays w w1 q mb most L S c blk off size h hb hblk hcl hcc
  have HL := hide hlay
  clear hlay h hc hcc
  go_enter Try.func35, Try.ntmps35
  go_wp2_with fail
  refine KC.mono ?_
  rintro e W ⟨v, ss, rfl, hS, hrow, hnil, hb⟩
  dsimp only
  have HB := hide hb
  have HS := hide hS
  have hlen2 : ss.length = L.length := by simpa using hS.length_eq
  have HE : Hid (ordQ L ss = ordQ L (L.map (·.1))) := hide (ordQ_of_perm L L hS (fun _ => rfl))
  clear KC hb hS
  rcases hrow.2 with ⟨rfl, hz⟩ | ⟨gb, cap, cur, rfl, hbase, hgb, r1, r2, r3, r4⟩
  · have hss : ss = [] := List.eq_nil_of_length_eq_zero hz
    subst hss
    have KN := AnyF.slices_SortFunc_none lay_sortF0 none 0 (.func (.func 44) #[] #[.pointer (some ⟨c, 0, none⟩)]) W
    change Calls Try.prog 42 _ _ _ at KN
    have HO : Hid (OwnR W w.heap.size 3 (.slice none 0 0) ((ordQ L (L.map (·.1))).map izV)) := hide (by rw [← HE.out, show ordQ L [] = [] by simp [ordQ]]; exact OwnR.nil _ _ _)
    clear hrow hnil hz hlen2
    go_wp2_with fail
    refine KN.mono ?_
    rintro e w' ⟨rfl, rfl⟩
    dsimp only
    clear KN
    go_wp2
    go_ret
    exact ⟨_, rfl, HO.out, HB.out⟩
  · have hH : Holds encZ W gb 0 ss.toArray := holds_of_block_i hgb (by simpa using r4)
    have hgl : gb < W.heap.size := (Array.getElem?_eq_some_iff.1 hgb).1
    have KS := Any.slices_SortFunc_total lay_sortF (Value.int .i64) (fun _ => rfl) (cmpQ L) (swo_cmpQ L) 44 #[.pointer (some ⟨c, 0, none⟩)] gb 0 cap ss.toArray W (enters_of Try.func44 (by kernel_rfl) rfl) (HL.out W gb 0 _ HB.out hbase) hH hgl (by simp; omega) (tot_cmpQ L)
    change Calls Try.prog 42 _ _ _ at KS
    rw [List.size_toArray] at KS
    have HO : Hid (∀ n os, OwnR (sortWorld (Value.int .i64) W gb 0 n (ordQ L ss).toArray os) w.heap.size 3 (.slice (some ⟨gb, 0, none⟩) ss.length cap) ((ordQ L (L.map (·.1))).map izV)) := hide (fun n os => by
      have hl : (ordQ L ss).length = ss.length := (ordQ_perm L ss).length_eq
      have := ownsRow_sorted_i (n := n) (os := os) (ts := ordQ L ss) hl hbase hgb r1 r2 r3
      unfold OwnR
      rw [← HE.out, List.length_map, hl]
      exact this)
    have HG : Hid (∀ n os, Below w.heap.size w (sortWorld (Value.int .i64) W gb 0 n (ordQ L ss).toArray os)) := hide (fun n os => HB.out.grown (grownBy_sorted_i _) HB.out.size (fun j hj => by cases hj; exact hbase))
    clear hrow hnil hlen2 hH hgb r4 HL
    go_wp2_with fail
    refine KS.mono ?_
    rintro e w' ⟨rfl, n, os, rfl⟩
    dsimp only
    have h1 := hide (HO.out n os)
    have h2 := hide (HG.out n os)
    simp only [ordQ_eq]
    obtain ⟨W2, hW2⟩ : ∃ W2, W2 = sortWorld (Value.int .i64) W gb 0 n (ordQ L ss).toArray os := ⟨_, rfl⟩
    rw [← hW2] at h1 h2 ⊢
    clear hW2 KS
    go_wp2
    go_ret
    exact ⟨_, rfl, h1.out, h2.out⟩
end Go.Proofs.Ytajpibopknpmmaa
