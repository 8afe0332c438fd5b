/-
  The walks of geneve's layout: a number, bytes.
-/
import Derived.Test.YtdlilokmfekndaaGna
import Derived.Test.YtdlilokmfekndaaMla
import Derived.Test.YtdlilokmfekndaaMrd
namespace Go.Proofs.Ytdlilokmfekndaa
open Go.RowKit
set_option maxRecDepth 100000
set_option linter.unusedVariables false
set_option linter.unusedSimpArgs false

/-- the pieces that are laid: the two rows of the layout at g. -/
structure LayG (w : World) (base g : Nat) (vv oo : Value) (items : List VItem) (ops : List (Int × Int)) : Prop where
  row : w.heap[g]? = some (.cells #[vv, oo] 91 (0, 0))
  lt : g < base
  v : w.ownsRow base 102 2 vv items.length (itemCells items)
  o : w.ownsRow base 117 2 oo ops.length (opCells ops)
  d : vv.ownBlock = none ∨ vv.ownBlock ≠ oo.ownBlock
  b : base ≤ w.heap.size
/-- what a call on the layout leaves as it was. -/
structure LayF (w w' : World) (g : Nat) (vv oo vv' oo' : Value) : Prop where
  os : w'.os = w.os
  tape : w'.tape = w.tape
  output : w'.output = w.output
  size : w.heap.size ≤ w'.heap.size
  block : ∀ k, k < w.heap.size → k ≠ g → vv.ownBlock ≠ some k → oo.ownBlock ≠ some k → w'.heap[k]? = w.heap[k]?
  nv : vv'.ownBlock = vv.ownBlock ∨ ∀ k, vv'.ownBlock = some k → w.heap.size ≤ k
  no : oo'.ownBlock = oo.ownBlock ∨ ∀ k, oo'.ownBlock = some k → w.heap.size ≤ k
theorem lay_cells {w : World} {base g : Nat} {vv oo : Value} {items : List VItem} {ops : List (Int × Int)} (h : LayG w base g vv oo items ops) : w.cell? ⟨g, 0, none⟩ = some vv ∧ w.cell? ⟨g, 1, none⟩ = some oo ∧ w.frozen? ⟨g, 0, none⟩ = false ∧ w.frozen? ⟨g, 1, none⟩ = false := by
  have e : ∀ j, w.cell? ⟨g, j, none⟩ = #[vv, oo][j]? := fun j => cell_of_row w g j _ _ (0, 0) h.row
  refine ⟨?_, ?_, frozen_of_row w g 0 _ _ h.row, frozen_of_row w g 1 _ _ h.row⟩ <;> rw [e] <;> rfl
/-- the row of values grows by one: what is so behind the append and its store. -/
theorem LayG.val {w w4 : World} {base g : Nat} {vv oo vv' : Value} {items : List VItem} {ops : List (Int × Int)} {it : VItem} (h : LayG w base g vv oo items ops) (hg : w.grownBy w4 vv.ownBlock) (hv : w4.ownsRow base 102 2 vv' (items ++ [it]).length (itemCells (items ++ [it]))) (ha : vv'.ownBlock = vv.ownBlock ∨ ∀ k, vv'.ownBlock = some k → w.heap.size ≤ k) :
    LayG (w4.setCell ⟨g, 0, none⟩ vv') base g vv' oo (items ++ [it]) ops ∧ LayF w (w4.setCell ⟨g, 0, none⟩ vv') g vv oo vv' oo := by
  have hgne : ∀ k, vv.ownBlock = some k → k ≠ g := fun k hk e => by have := (World.ownsRow.lt h.v k hk).1; have := h.lt; omega
  have hgl : g < w.heap.size := (Array.getElem?_eq_some_iff.1 h.row).1
  have r4 : w4.heap[g]? = some (.cells #[vv, oo] 91 (0, 0)) := (hg.block g hgl (fun e => hgne g e.symm rfl)).trans h.row
  have r5 := heap_setCell_same w4 g 0 _ _ vv' r4
  have g5 := grown_set w4 g 0 vv'
  have hvg : vv'.ownBlock = none ∨ vv'.ownBlock ≠ some g := by
    by_cases e : vv'.ownBlock = some g
    · have := (World.ownsRow.lt hv g e).1; have := h.lt; omega
    · exact .inr e
  have o4 : w4.ownsRow base 117 2 oo ops.length (opCells ops) := World.ownsRow.kept h.o hg (by
    rcases h.d with e | e
    · by_cases en : oo.ownBlock = none
      · exact .inl en
      · exact .inr (by rw [e]; exact en)
    · exact .inr (fun e2 => e e2.symm))
  have hog : oo.ownBlock = none ∨ oo.ownBlock ≠ some g := by
    by_cases e : oo.ownBlock = some g
    · have := (World.ownsRow.lt h.o g e).1; have := h.lt; omega
    · exact .inr e
  refine ⟨⟨r5, h.lt, World.ownsRow.kept hv g5 hvg, World.ownsRow.kept o4 g5 hog, ?_, Nat.le_trans h.b (Nat.le_trans hg.size g5.size)⟩, ⟨g5.os.trans hg.os, g5.tape.trans hg.tape, g5.output.trans hg.output, Nat.le_trans hg.size g5.size, fun k hk hkg hkv hko => ?_, ha, .inl rfl⟩⟩
  · rcases ha with e | e
    · rw [e]; exact h.d
    · by_cases en : vv'.ownBlock = none
      · exact .inl en
      · refine .inr (fun e2 => ?_)
        obtain ⟨k, hk⟩ := Option.ne_none_iff_exists'.1 en
        have h1 := e k hk
        have h2 := (World.ownsRow.lt h.o k (by rw [← e2]; exact hk)).2
        omega
  · exact (g5.block k (Nat.lt_of_lt_of_le hk hg.size) (fun e => hkg (Option.some.inj e))).trans (hg.block k hk (fun e => hkv e.symm))
theorem LayG.op {w w4 : World} {base g : Nat} {vv oo oo' : Value} {items : List VItem} {ops : List (Int × Int)} {it : Int × Int} (h : LayG w base g vv oo items ops) (hg : w.grownBy w4 oo.ownBlock) (hv : w4.ownsRow base 117 2 oo' (ops ++ [it]).length (opCells (ops ++ [it]))) (ha : oo'.ownBlock = oo.ownBlock ∨ ∀ k, oo'.ownBlock = some k → w.heap.size ≤ k) :
    LayG (w4.setCell ⟨g, 1, none⟩ oo') base g vv oo' items (ops ++ [it]) ∧ LayF w (w4.setCell ⟨g, 1, none⟩ oo') g vv oo vv oo' := by
  have hgne : ∀ k, oo.ownBlock = some k → k ≠ g := fun k hk e => by have := (World.ownsRow.lt h.o k hk).1; have := h.lt; omega
  have hgl : g < w.heap.size := (Array.getElem?_eq_some_iff.1 h.row).1
  have r4 : w4.heap[g]? = some (.cells #[vv, oo] 91 (0, 0)) := (hg.block g hgl (fun e => hgne g e.symm rfl)).trans h.row
  have r5 := heap_setCell_same w4 g 1 _ _ oo' r4
  have g5 := grown_set w4 g 1 oo'
  have hvg : oo'.ownBlock = none ∨ oo'.ownBlock ≠ some g := by
    by_cases e : oo'.ownBlock = some g
    · have := (World.ownsRow.lt hv g e).1; have := h.lt; omega
    · exact .inr e
  have o4 : w4.ownsRow base 102 2 vv items.length (itemCells items) := World.ownsRow.kept h.v hg h.d
  have hog : vv.ownBlock = none ∨ vv.ownBlock ≠ some g := by
    by_cases e : vv.ownBlock = some g
    · have := (World.ownsRow.lt h.v g e).1; have := h.lt; omega
    · exact .inr e
  refine ⟨⟨r5, h.lt, World.ownsRow.kept o4 g5 hog, World.ownsRow.kept hv g5 hvg, ?_, Nat.le_trans h.b (Nat.le_trans hg.size g5.size)⟩, ⟨g5.os.trans hg.os, g5.tape.trans hg.tape, g5.output.trans hg.output, Nat.le_trans hg.size g5.size, fun k hk hkg hkv hko => ?_, .inl rfl, ha⟩⟩
  · rcases ha with e | e
    · rw [e]; exact h.d
    · by_cases en : vv.ownBlock = none
      · exact .inl en
      · refine .inr (fun e2 => ?_)
        obtain ⟨k, hk⟩ := Option.ne_none_iff_exists'.1 en
        have h1 := e k (by rw [← e2]; exact hk)
        have h2 := (World.ownsRow.lt h.v k hk).2
        omega
  · exact (g5.block k (Nat.lt_of_lt_of_le hk hg.size) (fun e => hkg (Option.some.inj e))).trans (hg.block k hk (fun e => hko e.symm))
theorem LayF.trans {w w' w'' : World} {g : Nat} {vv oo vv' oo' vv'' oo'' : Value} (h : LayF w w' g vv oo vv' oo') (h' : LayF w' w'' g vv' oo' vv'' oo'') : LayF w w'' g vv oo vv'' oo'' := by
  refine ⟨h'.os.trans h.os, h'.tape.trans h.tape, h'.output.trans h.output, Nat.le_trans h.size h'.size, fun k hk hg hv ho => ?_, ?_, ?_⟩
  · refine (h'.block k (Nat.lt_of_lt_of_le hk h.size) hg (fun e => ?_) (fun e => ?_)).trans (h.block k hk hg hv ho)
    · rcases h.nv with e2 | e2
      · exact hv (e2.symm.trans e)
      · have := e2 k e; omega
    · rcases h.no with e2 | e2
      · exact ho (e2.symm.trans e)
      · have := e2 k e; omega
  · rcases h'.nv with e | e
    · rw [e]; exact h.nv
    · exact .inr (fun k hk => Nat.le_trans h.size (e k hk))
  · rcases h'.no with e | e
    · rw [e]; exact h.no
    · exact .inr (fun k hk => Nat.le_trans h.size (e k hk))

set_option maxHeartbeats 4000000 in
theorem layNum_any (w : World) (base g : Nat) (vv oo : Value) (items : List VItem) (ops : List (Int × Int)) (h : LayG w base g vv oo items ops) (hl : items.length ≤ 8388608) (hl2 : ops.length ≤ 8388608) (sz : Int) (N : Nat) (hN : N < 9223372036854775808) :
    Calls Try.prog 39 #[.pointer (some ⟨g, 0, none⟩), .int .i64 sz, .int .i64 (N : Int)] w fun e w' => ∃ vv' oo', e = .returned (.tuple #[]) ∧ LayG w' base g vv' oo' (items ++ [(⟨N, .slice none 0 0, []⟩ : VItem)]) (ops ++ [(0, sz)]) ∧ LayF w w' g vv oo vv' oo' := by
  obtain ⟨k0, k1, f0, f1⟩ := lay_cells h
  have hw : IntKind.u64.wrap (N : Int) = (N : Int) := IntWalk.u64_in _ (by omega)
  have HH := hide h
  have HL := hide (And.intro hl hl2)
  obtain ⟨i0, hi0, hz0, hz1, hz2⟩ := info_parts info_val
  obtain ⟨j0, hj0, hy0, hy1, hy2⟩ := info_parts info_op
  have HLIT := hide (heap_alloc_new w (.cells #[.int .u64 (N : Int), .slice none 0 0] 102))
  clear hl hl2 hN h
  go_enter Try.func39, Try.ntmps39
  go_wp2_with (at_builtin; (refine wpList_app_two rfl (.tmp 10) (.tmp 14) base 88 102 i0 _ 32 rfl Try.underlying88 hi0 hz0 hz1 hz2 rfl vv items.length (itemCells items) (some ⟨w.heap.size, 0, none⟩) 1 1 [.int .u64 (N : Int), .slice none 0 0] rfl rfl (by exact World.ownsRow.alloc HH.out.v _) rfl (fun _ => ⟨w.heap.size, 0, rfl, fun n u hu => by rw [cell_of_row _ _ (0 + n) _ _ (0, 0) HLIT.out, Nat.zero_add]; simpa using hu⟩) (fun e => by cases e) (fun u hu => by simp at hu; rcases hu with rfl | rfl <;> rfl) (by have := HL.out.1; unfold maxLen; omega) (by have := HL.out.1; omega) (by have := HH.out.b; simp; omega) ?_))
  intro v4 w4 hown4 hgr4 hat4
  have hg4 : w.grownBy w4 vv.ownBlock := grown_trans (World.grownBy_alloc w _ _) hgr4
  obtain ⟨its, hits⟩ : ∃ its, its = items ++ [(⟨N, .slice none 0 0, []⟩ : VItem)] := ⟨_, rfl⟩
  have hv4 : w4.ownsRow base 102 2 v4 its.length (itemCells its) := by rw [hits]; rw [itemCells_snoc, List.length_append]; exact hown4
  obtain ⟨A4, c4, hs4, -⟩ := row_reads hv4
  subst hs4
  obtain ⟨G1, F1⟩ := HH.out.val (it := ⟨N, .slice none 0 0, []⟩) hg4 (by rw [← hits]; exact hv4) (hat4.imp id (fun e k hk => by rw [e] at hk; cases hk; simp))
  have hgl : g < w.heap.size := (Array.getElem?_eq_some_iff.1 HH.out.row).1
  have r4 : w4.heap[g]? = some (.cells #[vv, oo] 91 (0, 0)) := (hg4.block g hgl (fun e => by have := (World.ownsRow.lt HH.out.v g e.symm).1; have := HH.out.lt; omega)).trans HH.out.row
  have m0 : w4.cell? ⟨g, 0, none⟩ = some vv := (cell_of_row w4 g 0 _ _ (0, 0) r4).trans rfl
  have mf := frozen_of_row w4 g 0 _ _ r4
  rw [← hits] at G1
  have HITS := hide hits
  clear hits
  obtain ⟨W5, hW5⟩ : ∃ W5, w4.setCell ⟨g, 0, none⟩ (.slice A4 its.length c4) = W5 := ⟨_, rfl⟩
  rw [hW5] at G1 F1
  obtain ⟨p0, p1, q0, q1⟩ := lay_cells G1
  have HG1 := hide G1
  have HF1 := hide F1
  have HLIT5 := hide (heap_alloc_new W5 (.cells #[.int .i64 0, .int .i64 sz] 117))
  clear hv4 G1 F1 hown4 hgr4 hat4 hg4 HLIT k0 k1 f0 f1 r4
  go_wp2_with (at_builtin; refine wpList_app_two rfl (.tmp 22) (.tmp 25) base 89 117 j0 _ 16 rfl Try.underlying89 hj0 hy0 hy1 hy2 rfl oo ops.length (opCells ops) (some ⟨W5.heap.size, 0, none⟩) 1 1 [.int .i64 0, .int .i64 sz] rfl rfl (by exact World.ownsRow.alloc HG1.out.o _) rfl (fun _ => ⟨W5.heap.size, 0, rfl, fun n u hu => by rw [cell_of_row _ _ (0 + n) _ _ (0, 0) HLIT5.out, Nat.zero_add]; simpa using hu⟩) (fun e => by cases e) (fun u hu => by simp at hu; rcases hu with rfl | rfl <;> rfl) (by have := HL.out.2; unfold maxLen; omega) (by have := HL.out.2; omega) (by have := HG1.out.b; simp; omega) ?_)
  intro v6 w6 hown6 hgr6 hat6
  have hg6 : W5.grownBy w6 oo.ownBlock := grown_trans (World.grownBy_alloc W5 _ _) hgr6
  obtain ⟨ops2, hops⟩ : ∃ o, o = ops ++ [((0 : Int), sz)] := ⟨_, rfl⟩
  have hv6 : OwnO w6 base v6 ops2 := by rw [hops]; unfold OwnO; rw [opCells_snoc, List.length_append]; exact hown6
  obtain ⟨A6, c6, hs6, -⟩ := hv6.shape
  subst hs6
  obtain ⟨G2, F2⟩ := HG1.out.op (it := (0, sz)) hg6 (by rw [← hops]; exact hv6) (hat6.imp id (fun e k hk => by rw [e] at hk; cases hk; simp))
  rw [← hops] at G2
  have HOPS := hide hops
  clear hops
  have hgl6 : g < W5.heap.size := (Array.getElem?_eq_some_iff.1 HG1.out.row).1
  have r6 : w6.heap[g]? = some (.cells #[.slice A4 its.length c4, oo] 91 (0, 0)) := (hg6.block g hgl6 (fun e => by have := (World.ownsRow.lt HG1.out.o g e.symm).1; have := HG1.out.lt; omega)).trans HG1.out.row
  have n0 : w6.cell? ⟨g, 1, none⟩ = some oo := (cell_of_row w6 g 1 _ _ (0, 0) r6).trans rfl
  have nf := frozen_of_row w6 g 1 _ _ r6
  have HG2 := hide G2
  have HF2 := hide (HF1.out.trans F2)
  clear hW5 m0 mf G2 F2 hv6 hown6 hgr6 hat6 hg6 r6 p0 p1 q0 q1
  go_wp2
  first | (go_end0; exact ⟨_, _, rfl, by rw [← HITS.out, ← HOPS.out]; exact HG2.out, HF2.out⟩) | exact ⟨_, _, rfl, by rw [← HITS.out, ← HOPS.out]; exact HG2.out, HF2.out⟩ | (go_ret; exact ⟨_, _, rfl, by rw [← HITS.out, ← HOPS.out]; exact HG2.out, HF2.out⟩)
set_option maxHeartbeats 4000000 in
theorem layTake_any (w : World) (base g : Nat) (vv oo : Value) (items : List VItem) (ops : List (Int × Int)) (h : LayG w base g vv oo items ops) (hl : items.length ≤ 8388608) (hl2 : ops.length ≤ 8388608) (A : Option Addr) (m c : Nat) (d : List UInt8) :
    Calls Try.prog 41 #[.pointer (some ⟨g, 0, none⟩), .slice A m c] w fun e w' => ∃ vv' oo', e = .returned (.tuple #[]) ∧ LayG w' base g vv' oo' (items ++ [(⟨0, .slice A m c, d⟩ : VItem)]) (ops ++ [(1, (m : Int))]) ∧ LayF w w' g vv oo vv' oo' := by
  obtain ⟨k0, k1, f0, f1⟩ := lay_cells h
  have HH := hide h
  have HL := hide (And.intro hl hl2)
  obtain ⟨i0, hi0, hz0, hz1, hz2⟩ := info_parts info_val
  obtain ⟨j0, hj0, hy0, hy1, hy2⟩ := info_parts info_op
  have HLIT := hide (heap_alloc_new w (.cells #[.int .u64 0, .slice A m c] 102))
  clear hl hl2 h
  go_enter Try.func41, Try.ntmps41
  go_wp2_with (at_builtin; (refine wpList_app_two rfl (.tmp 8) (.tmp 11) base 88 102 i0 _ 32 rfl Try.underlying88 hi0 hz0 hz1 hz2 rfl vv items.length (itemCells items) (some ⟨w.heap.size, 0, none⟩) 1 1 [.int .u64 0, .slice A m c] rfl rfl (by exact World.ownsRow.alloc HH.out.v _) rfl (fun _ => ⟨w.heap.size, 0, rfl, fun n u hu => by rw [cell_of_row _ _ (0 + n) _ _ (0, 0) HLIT.out, Nat.zero_add]; simpa using hu⟩) (fun e => by cases e) (fun u hu => by simp at hu; rcases hu with rfl | rfl <;> rfl) (by have := HL.out.1; unfold maxLen; omega) (by have := HL.out.1; omega) (by have := HH.out.b; simp; omega) ?_))
  intro v4 w4 hown4 hgr4 hat4
  have hg4 : w.grownBy w4 vv.ownBlock := grown_trans (World.grownBy_alloc w _ _) hgr4
  obtain ⟨its, hits⟩ : ∃ its, its = items ++ [(⟨0, .slice A m c, d⟩ : VItem)] := ⟨_, rfl⟩
  have hv4 : w4.ownsRow base 102 2 v4 its.length (itemCells its) := by rw [hits]; rw [itemCells_snoc, List.length_append]; exact hown4
  obtain ⟨A4, c4, hs4, -⟩ := row_reads hv4
  subst hs4
  obtain ⟨G1, F1⟩ := HH.out.val (it := ⟨0, .slice A m c, d⟩) hg4 (by rw [← hits]; exact hv4) (hat4.imp id (fun e k hk => by rw [e] at hk; cases hk; simp))
  have hgl : g < w.heap.size := (Array.getElem?_eq_some_iff.1 HH.out.row).1
  have r4 : w4.heap[g]? = some (.cells #[vv, oo] 91 (0, 0)) := (hg4.block g hgl (fun e => by have := (World.ownsRow.lt HH.out.v g e.symm).1; have := HH.out.lt; omega)).trans HH.out.row
  have m0 : w4.cell? ⟨g, 0, none⟩ = some vv := (cell_of_row w4 g 0 _ _ (0, 0) r4).trans rfl
  have mf := frozen_of_row w4 g 0 _ _ r4
  rw [← hits] at G1
  have HITS := hide hits
  clear hits
  obtain ⟨W5, hW5⟩ : ∃ W5, w4.setCell ⟨g, 0, none⟩ (.slice A4 its.length c4) = W5 := ⟨_, rfl⟩
  rw [hW5] at G1 F1
  obtain ⟨p0, p1, q0, q1⟩ := lay_cells G1
  have HG1 := hide G1
  have HF1 := hide F1
  have HLIT5 := hide (heap_alloc_new W5 (.cells #[.int .i64 1, .int .i64 (m : Int)] 117))
  clear hv4 G1 F1 hown4 hgr4 hat4 hg4 HLIT k0 k1 f0 f1 r4
  go_wp2_with (at_builtin; refine wpList_app_two rfl (.tmp 19) (.tmp 23) base 89 117 j0 _ 16 rfl Try.underlying89 hj0 hy0 hy1 hy2 rfl oo ops.length (opCells ops) (some ⟨W5.heap.size, 0, none⟩) 1 1 [.int .i64 1, .int .i64 (m : Int)] rfl rfl (by exact World.ownsRow.alloc HG1.out.o _) rfl (fun _ => ⟨W5.heap.size, 0, rfl, fun n u hu => by rw [cell_of_row _ _ (0 + n) _ _ (0, 0) HLIT5.out, Nat.zero_add]; simpa using hu⟩) (fun e => by cases e) (fun u hu => by simp at hu; rcases hu with rfl | rfl <;> rfl) (by have := HL.out.2; unfold maxLen; omega) (by have := HL.out.2; omega) (by have := HG1.out.b; simp; omega) ?_)
  intro v6 w6 hown6 hgr6 hat6
  have hg6 : W5.grownBy w6 oo.ownBlock := grown_trans (World.grownBy_alloc W5 _ _) hgr6
  obtain ⟨ops2, hops⟩ : ∃ o, o = ops ++ [((1 : Int), (m : Int))] := ⟨_, rfl⟩
  have hv6 : OwnO w6 base v6 ops2 := by rw [hops]; unfold OwnO; rw [opCells_snoc, List.length_append]; exact hown6
  obtain ⟨A6, c6, hs6, -⟩ := hv6.shape
  subst hs6
  obtain ⟨G2, F2⟩ := HG1.out.op (it := (1, (m : Int))) hg6 (by rw [← hops]; exact hv6) (hat6.imp id (fun e k hk => by rw [e] at hk; cases hk; simp))
  rw [← hops] at G2
  have HOPS := hide hops
  clear hops
  have hgl6 : g < W5.heap.size := (Array.getElem?_eq_some_iff.1 HG1.out.row).1
  have r6 : w6.heap[g]? = some (.cells #[.slice A4 its.length c4, oo] 91 (0, 0)) := (hg6.block g hgl6 (fun e => by have := (World.ownsRow.lt HG1.out.o g e.symm).1; have := HG1.out.lt; omega)).trans HG1.out.row
  have n0 : w6.cell? ⟨g, 1, none⟩ = some oo := (cell_of_row w6 g 1 _ _ (0, 0) r6).trans rfl
  have nf := frozen_of_row w6 g 1 _ _ r6
  have HG2 := hide G2
  have HF2 := hide (HF1.out.trans F2)
  clear hW5 m0 mf G2 F2 hv6 hown6 hgr6 hat6 hg6 r6 p0 p1 q0 q1
  go_wp2
  first | (go_end0; exact ⟨_, _, rfl, by rw [← HITS.out, ← HOPS.out]; exact HG2.out, HF2.out⟩) | exact ⟨_, _, rfl, by rw [← HITS.out, ← HOPS.out]; exact HG2.out, HF2.out⟩ | (go_ret; exact ⟨_, _, rfl, by rw [← HITS.out, ← HOPS.out]; exact HG2.out, HF2.out⟩)
end Go.Proofs.Ytdlilokmfekndaa
