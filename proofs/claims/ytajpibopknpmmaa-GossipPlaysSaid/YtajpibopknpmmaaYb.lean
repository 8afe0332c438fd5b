/-
  The document's queue: a new one; how often one is told still; news put.
-/
import Derived.Test.YtajpibopknpmmaaYa
import Derived.Test.YtajpibopknpmmaaGk
import Derived.Deep.AppendLies
namespace Go.Proofs.Ytajpibopknpmmaa
open Go.RowKit
set_option maxRecDepth 100000
set_option linter.unusedVariables false
set_option linter.unusedSimpArgs false
attribute [local go_sem ↓] exec_span exec_put exec_build heap_alloc_new heap_old
attribute [local go_sem] spanQ_ptr spanC_some heap_of_drew heap_of_drewN putAt_ptr putOk_ptr oldOk_some World.setRow_alloc_new

theorem built_rq (m : Int) : Try.prog.built 49 [(0, .int .i64 m)] = some #[.int .i64 m, .slice none 0 0] := by kernel_rfl
theorem built_ri (k : Int) (A : Option Addr) (n c : Nat) (t : Int) : Try.prog.built 65 [(0, .int .i64 k), (1, .slice A n c), (2, .int .i64 t)] = some #[.int .i64 k, .slice A n c, .int .i64 t] := by kernel_rfl
theorem rs_ri : rowSize Try.prog 65 = some 3 := by kernel_rfl
theorem info_ri : (Try.prog.info? 65).map (fun i => (i.zero, i.size, i.bytes)) = some (some (.agg #[.int .i64 0, .slice none 0 0, .int .i64 0]), 3, 40) := by kernel_rfl
attribute [local go_sem] built_rq built_ri rs_ri

theorem wpList_store_ran {P : Program} {w w' : World} {ops : Array Oper} {rest : List Oper} {o : Oper} {a : Act} {Q : Exit → Act → World → Prop} (hgd : o.guard = none) (ty : TypeId) (x y : Operand)
    (ho : o.op = .store ty x y) (g off : Nat) (hx : a.eval x = .pointer (some ⟨g, off, none⟩)) (cs : List Value) (hy : a.eval y = .agg cs.toArray) (hi : (P.info? ty).map (·.size) = some cs.length)
    (hst : (storeCells ⟨g, off, none⟩ cs 0).run P w = .ok () w') (h : wpList P ops Q rest (a.put o.dst undef) w') : wpList P ops Q (o :: rest) a w := by
  refine wpList_plain hgd fun K hK => ?_
  have hrun : (storeVar ty ⟨g, off, none⟩ (.agg cs.toArray)).run P w = .ok () w' := by
    cases hq : P.info? ty with
    | none => simp [hq] at hi
    | some i =>
      have hs : cs.length = i.size := by simp [hq] at hi; omega
      simp [storeVar, sizeOf, typeInfo, hq, Value.cells, hs, hst]
  unfold Oper.wp
  simp [execOp, ho, Instr.storeAt, Instr.sureAddr, hx, hy, hrun, Result.andThen]
  exact hK _ _ h
def NewRP (w : World) (most : Int) (e : Ending) (w' : World) : Prop := Below w.heap.size w w' ∧
    (((1 ≤ most ∧ most ≤ 4096) ∧ ∃ r, e = .returned (.pointer (some ⟨r, 0, none⟩)) ∧ w.heap.size ≤ r ∧ RefQ w' r most (.slice none 0 0) [] (fun _ => False)) ∨ (¬ (1 ≤ most ∧ most ≤ 4096) ∧ e = .returned (.pointer none)))
set_option maxHeartbeats 1000000 in
theorem newQR_any (w : World) (most : Int) : Calls Try.prog 9 #[.int .i64 most] w (NewRP w most) := by
  by_cases h1 : most < 1
  · have HF := hide (show ¬ (1 ≤ most ∧ most ≤ 4096) by omega)
    go_enter Try.func9, Try.ntmps9
    go_wp2
    go_ret
    exact ⟨Below.refl _ _, .inr ⟨HF.out, rfl⟩⟩
  · by_cases h2 : most > 4096
    · have HF := hide (show ¬ (1 ≤ most ∧ most ≤ 4096) by omega)
      go_enter Try.func9, Try.ntmps9
      go_wp2
      go_ret
      exact ⟨Below.refl _ _, .inr ⟨HF.out, rfl⟩⟩
    · have HF := hide (show 1 ≤ most ∧ most ≤ 4096 by omega)
      go_enter Try.func9, Try.ntmps9
      go_wp2
      go_ret
      exact ⟨(Below.refl _ _).alloc (Nat.le_refl _) _, .inl ⟨HF.out, w.heap.size, rfl, Nat.le_refl _, ⟨heap_alloc_new _ _, ⟨[], World.ownsRow_nil _ _ _ _, trivial⟩, OkQ.nil, fun g hg => hg.elim⟩⟩⟩
theorem posI_some {R : List (Int × Nw)} {k : Int} {i : Nat} (h : posQ k R = some i) : posI R k = (i : Int) := by unfold posI; rw [h]
theorem posI_none {R : List (Int × Nw)} {k : Int} (h : posQ k R = none) : posI R k = -1 := by unfold posI; rw [h]
set_option maxHeartbeats 2000000 in
theorem leftR_any (w : World) (r : Nat) (most : Int) (v : Value) (R : List (Int × Nw)) (T : Nat → Prop) (k : Int) (h : RefQ w r most v R T) (hl : R.length ≤ 4096) :
    Calls Try.prog 21 #[.pointer (some ⟨r, 0, none⟩), .int .i64 k] w fun e w' => e = .returned (.int .i64 (leftQ R k : Int)) ∧ w' = w := by
  have KF := findR_any w r most v R T k h hl
  cases hp : posQ k R with
  | none =>
    rw [posI_none hp] at KF
    have hz : leftQ R k = 0 := by unfold leftQ; rw [(posQ_none hp).1]; rfl
    rw [hz]
    clear h hp hz
    go_enter Try.func21, Try.ntmps21
    go_wp2_with (first | (go_at_call 28; refine KF.mono ?_; rintro e w' ⟨rfl, rfl⟩) | fail)
    go_ret
    exact ⟨rfl, rfl⟩
  | some i =>
    rw [posI_some hp] at KF
    obtain ⟨hi, -, hlk, -⟩ := posQ_some hp
    have hz : leftQ R k = R[i].2.2 := by unfold leftQ; rw [hlk]; rfl
    obtain ⟨A, c, rfl, hcl, hcell⟩ := h.items.slice
    have c1 : w.cell? ⟨r, 1, none⟩ = some (.slice A R.length c) := (cell_of_row w r 1 _ _ (0, 0) h.row).trans rfl
    obtain ⟨b, rfl, hbB, hcell⟩ := hcell (by omega)
    obtain ⟨-, -, d2⟩ := hcell i hi
    rw [hz]
    obtain ⟨x, hx⟩ : ∃ x, x = R[i].2.2 := ⟨_, rfl⟩
    rw [← hx] at d2 ⊢
    obtain ⟨n, hn⟩ : ∃ n, n = R.length := ⟨_, rfl⟩
    rw [← hn] at c1
    have hi0 : (0 : Int) ≤ (i : Int) := by omega
    have hi1 : (i : Int) < (n : Int) := by omega
    clear h hp hz hx hn hcell hlk hcl
    go_enter Try.func21, Try.ntmps21
    go_wp2_with (first | (go_at_call 28; refine KF.mono ?_; rintro e w' ⟨rfl, rfl⟩) | fail)
    go_ret
    exact ⟨rfl, rfl⟩
/-- what is kept while the document's queue turns: all but it and its row. -/
structure KeepR (r : Nat) (v : Value) (A B : World) : Prop where
  os : B.os = A.os
  tape : B.tape = A.tape
  output : B.output = A.output
  size : A.heap.size ≤ B.heap.size
  block : ∀ i, i < A.heap.size → i ≠ r → v.ownBlock ≠ some i → B.heap[i]? = A.heap[i]?
theorem KeepR.of_below {r : Nat} {v : Value} {A B : World} (h : Below A.heap.size A B) : KeepR r v A B := ⟨h.os, h.tape, h.output, h.size, fun i hi _ _ => h.block i hi⟩
/-- behind a Put of the document's. -/
def PutRP (w : World) (r : Nat) (most : Int) (v : Value) (R : List (Int × Nw)) (T : Nat → Prop) (k : Int) (d : List UInt8) (t : Int) (e : Ending) (w' : World) : Prop :=
  e = .returned (.int .i64 (putE most R k d t)) ∧ ∃ v' T', RefQ w' r most v' (putL most R k d t) T' ∧ (∀ g, T' g → T g ∨ w.heap.size ≤ g) ∧ KeepR r v w w' ∧ (v'.ownBlock = v.ownBlock ∨ ∀ g, v'.ownBlock = some g → w.heap.size ≤ g)
/-- one more behind the others. -/
theorem put_end {w W7 w8 : World} {r g5 n c5 ln cv gg cap : Nat} {most k t : Int} {Av : Option Addr} {R : List (Int × Nw)} {T : Nat → Prop} {d : List UInt8} {cs : List Value} {X : Obj} (hr : r < w.heap.size) (hq : RefQ W7 r most (.slice Av ln cv) R T) (hln : ln = R.length)
    (b7 : Below w.heap.size w W7) (hT : ∀ g, T g → g < w.heap.size) (hv : ∀ g, (Value.slice Av ln cv).ownBlock = some g → g < w.heap.size) (o7 : OwnB W7 w.heap.size (.slice (some ⟨g5, 0, none⟩) n c5) d) (hn : n = d.length) (g5l : w.heap.size ≤ g5) (lt7 : g5 < W7.heap.size)
    (hitem : ItemC W7 T cs R) (o8 : w8.ownsRow 0 65 3 (.slice (some ⟨gg, 0, none⟩) (ln + 1) cap) (ln + 1) (cs ++ [Value.int .i64 k, .slice (some ⟨g5, 0, none⟩) n c5, .int .i64 t])) (g8 : (W7.alloc X).drew.grownBy w8 (Value.slice Av ln cv).ownBlock)
    (t8 : (Value.slice Av ln cv).ownBlock = some gg ∨ gg = W7.heap.size + 1) (x8 : w8.heap[r]? = some (.cells #[.int .i64 most, .slice Av ln cv] 49 (0, 0))) (ht : 1 ≤ t ∧ t ≤ 1000) (hE : putE most R k d t = 0 ∧ putL most R k d t = R ++ [(k, (d, t.toNat))]) (hok : OkQ (R ++ [(k, (d, t.toNat))])) :
    PutRP w r most (.slice Av ln cv) R T k d t (.returned (.int .i64 0)) (w8.setCell ⟨r, 1, none⟩ (.slice (some ⟨gg, 0, none⟩) (ln + 1) cap)) := by
  have hs8 : w8.grownBy (w8.setCell ⟨r, 1, none⟩ (.slice (some ⟨gg, 0, none⟩) (ln + 1) cap)) (some r) := grown_set w8 r 1 _
  have hsz : W7.heap.size + 1 ≤ w8.heap.size := by have := g8.size; simp at this; exact this
  have hgr : gg ≠ r := by
    rcases t8 with h | h
    · exact fun e => by
        subst e
        exact own_neT hq.items.choose_spec.1 hq.row (by decide) h
    · have := b7.size; omega
  have hkeep : ∀ i, i < W7.heap.size → i ≠ r → (Value.slice Av ln cv).ownBlock ≠ some i → (w8.setCell ⟨r, 1, none⟩ (.slice (some ⟨gg, 0, none⟩) (ln + 1) cap)).heap[i]? = W7.heap[i]? := fun i hi h1 h2 =>
    (hs8.block i (by omega) (fun e => h1 (by cases e; rfl))).trans ((g8.block i (by simp; omega) (fun e => h2 e.symm)).trans (heap_alloc_old W7 X hi))
  unfold PutRP
  rw [hE.1, hE.2]
  refine ⟨rfl, .slice (some ⟨gg, 0, none⟩) (ln + 1) cap, (fun g => T g ∨ g = g5), ⟨?_, ?_, hok, ?_⟩, ?_, ?_, ?_⟩
  · unfold World.setCell
    rw [Array.getElem?_modify, if_pos rfl, x8]; rfl
  · refine ⟨cs ++ [Value.int .i64 k, .slice (some ⟨g5, 0, none⟩) n c5, .int .i64 t], ?_, ?_⟩
    · rw [List.length_append, ← hln]
      exact World.ownsRow.kept o8 hs8 (.inr (by simp [Value.ownBlock]; exact hgr))
    · have hT7 : ∀ i, (T i ∨ i = g5) → i < W7.heap.size → (w8.setCell ⟨r, 1, none⟩ (.slice (some ⟨gg, 0, none⟩) (ln + 1) cap)).heap[i]? = W7.heap[i]? := fun i hi hil => by
        rcases hi with hi | hi
        · exact hkeep i hil (hq.sep i hi).2.1 (hq.sep i hi).2.2
        · subst hi
          exact hkeep _ hil (by omega) (fun e => by have := hv _ e; omega)
      have hby : Byt W7 W7.heap.size (some ⟨g5, 0, none⟩) d := by
        rw [hn] at o7
        exact o7.byt lt7
      have h1 := ItemC.mono (T' := fun g => T g ∨ g = g5) (fun g hg => .inl hg) (fun D m hb hD => byt_T hb (fun i hi hil => hT7 i (.inl hi) hil) (Nat.le_trans (by omega) hs8.size) hD) hitem
      have h2 := ItemC.snoc (k := k) (D := some ⟨g5, 0, none⟩) (c := c5) (x := (d, t.toNat)) (T := fun g => T g ∨ g = g5) (w := w8.setCell ⟨r, 1, none⟩ (.slice (some ⟨gg, 0, none⟩) (ln + 1) cap)) (by
        obtain ⟨g', cc, e, hle, -⟩ := o7.shape
        rw [hn] at o7
        obtain ⟨g', cc, e, hle, -⟩ := o7.shape
        simp only [Value.slice.injEq] at e
        dsimp only; omega) (byt_T (T := fun g => T g ∨ g = g5) hby hT7 (Nat.le_trans (by omega) hs8.size) (fun x hx => by cases hx; exact .inr rfl)) (fun a ha => by cases ha; exact .inr rfl) h1
      have e1 : ((t.toNat : Nat) : Int) = t := by omega
      dsimp only at h2
      rw [e1, ← hn] at h2
      exact h2
  · rintro g (hg | rfl)
    · obtain ⟨a, b, c⟩ := hq.sep g hg
      refine ⟨Nat.lt_of_lt_of_le (by omega) hs8.size, b, ?_⟩
      simp only [Value.ownBlock, ne_eq, Option.some.injEq]
      rintro rfl
      rcases t8 with h | h
      · exact c h
      · omega
    · refine ⟨Nat.lt_of_lt_of_le (by omega) hs8.size, by omega, ?_⟩
      simp only [Value.ownBlock, ne_eq, Option.some.injEq]
      rintro rfl
      rcases t8 with h | h
      · have := hv _ h; omega
      · omega
  · rintro g (hg | rfl)
    · exact .inl hg
    · exact .inr g5l
  · exact ⟨hs8.os.trans (g8.os.trans b7.os), hs8.tape.trans (g8.tape.trans b7.tape), hs8.output.trans (g8.output.trans b7.output), Nat.le_trans b7.size (Nat.le_trans (by omega) hs8.size), fun i hi h1 h2 => (hkeep i (Nat.lt_of_lt_of_le hi b7.size) h1 h2).trans (b7.block i hi)⟩
  · rcases t8 with h | h
    · exact .inl (by rw [h]; rfl)
    · refine .inr (fun g hg => ?_)
      simp only [Value.ownBlock, Option.some.injEq] at hg
      have := b7.size
      omega
theorem ItemC.set {w : World} {T : Nat → Prop} {k : Int} {D : Option Addr} {c : Nat} {x : Nw} (hc : x.1.length ≤ c) (hb : Byt w w.heap.size D x.1) (hD : ∀ a, D = some a → T a.block) : ∀ {cs : List Value} {l : List (Int × Nw)} {i : Nat}, ItemC w T cs l → i < l.length →
    ItemC w T (cs.take (i * 3) ++ [.int .i64 k, .slice D x.1.length c, .int .i64 (x.2 : Int)] ++ cs.drop (i * 3 + 3)) (l.set i (k, x))
  | [], [], i, _, hi => absurd hi (by simp)
  | a :: b :: e :: s, p :: t, 0, h, _ => ⟨rfl, ⟨D, c, rfl, hc, hb, hD⟩, rfl, by simpa using h.2.2.2⟩
  | a :: b :: e :: s, p :: t, i + 1, h, hi => by
    have := ItemC.set (k := k) hc hb hD (i := i) h.2.2.2 (by simpa using hi)
    rw [show (i + 1) * 3 = i * 3 + 1 + 1 + 1 by omega, show i * 3 + 1 + 1 + 1 + 3 = i * 3 + 3 + 1 + 1 + 1 by omega]
    simp only [List.take_succ_cons, List.drop_succ_cons, List.cons_append, List.set_cons_succ]
    exact ⟨h.1, h.2.1, h.2.2.1, this⟩
  | [], _ :: _, _, h, _ => by unfold ItemC at h; exact h.elim
  | [_], [], _, h, _ => by unfold ItemC at h; exact h.elim
  | [_], _ :: _, _, h, _ => by unfold ItemC at h; exact h.elim
  | [_, _], [], _, h, _ => by unfold ItemC at h; exact h.elim
  | [_, _], _ :: _, _, h, _ => by unfold ItemC at h; exact h.elim
  | _ :: _ :: _ :: _, [], _, h, _ => by unfold ItemC at h; exact h.elim
theorem splice_take {α : Type} (cur vs : List α) (a m : Nat) (h1 : a + vs.length ≤ m) (h2 : m ≤ cur.length) : (cur.take a ++ vs ++ cur.drop (a + vs.length)).take m = (cur.take m).take a ++ vs ++ (cur.take m).drop (a + vs.length) := by
  have e1 : (cur.take a ++ vs).length = a + vs.length := by rw [List.length_append, List.length_take]; omega
  rw [List.take_append, e1, List.take_of_length_le (by omega), List.take_take, Nat.min_eq_left (by omega), List.drop_take]
/-- one in another one's place. -/
theorem set_end {w W7 : World} {r g5 n c5 ln cv g i : Nat} {most k t : Int} {R : List (Int × Nw)} {T : Nat → Prop} {d : List UInt8} {cs : List Value} {cur : Array Value} (hr : r < w.heap.size) (hq : RefQ W7 r most (.slice (some ⟨g, 0, none⟩) ln cv) R T) (hln : ln = R.length)
    (b7 : Below w.heap.size w W7) (hT : ∀ g, T g → g < w.heap.size) (hv : g < w.heap.size) (o7 : OwnB W7 w.heap.size (.slice (some ⟨g5, 0, none⟩) n c5) d) (hn : n = d.length) (g5l : w.heap.size ≤ g5) (lt7 : g5 < W7.heap.size) (hle5 : d.length ≤ c5)
    (hitem : ItemC W7 T cs R) (hcur : W7.heap[g]? = some (.cells cur 65 (0, 0))) (hlc : ln ≤ cv) (hmx : cv ≤ maxLen) (hsz : cur.size = cv * 3) (htk : cur.toList.take (ln * 3) = cs) (hi : i < ln) (ht : 1 ≤ t ∧ t ≤ 1000) (hE : putE most R k d t = 0 ∧ putL most R k d t = R.set i (k, (d, t.toNat))) (hok : OkQ (R.set i (k, (d, t.toNat)))) :
    PutRP w r most (.slice (some ⟨g, 0, none⟩) ln cv) R T k d t (.returned (.int .i64 0)) (W7.drew.setRow g (cur.toList.take (i * 3 + 0) ++ [Value.int .i64 k, .slice (some ⟨g5, 0, none⟩) n c5, .int .i64 t] ++ cur.toList.drop (i * 3 + 0 + 3)).toArray) := by
  have hgr : g ≠ r := fun e => by rw [e] at hcur; rw [hq.row] at hcur; injection hcur with h; injection h with _ h; exact absurd h (by decide)
  have hgl : g < W7.heap.size := (Array.getElem?_eq_some_iff.1 hcur).1
  obtain ⟨W8, hW8⟩ : ∃ W, W = W7.drew.setRow g (cur.toList.take (i * 3 + 0) ++ [Value.int .i64 k, .slice (some ⟨g5, 0, none⟩) n c5, .int .i64 t] ++ cur.toList.drop (i * 3 + 0 + 3)).toArray := ⟨_, rfl⟩
  have hrow8 : W8.heap[g]? = some (.cells (cur.toList.take (i * 3) ++ [Value.int .i64 k, .slice (some ⟨g5, 0, none⟩) n c5, .int .i64 t] ++ cur.toList.drop (i * 3 + 3)).toArray 65 (0, 0)) := by
    rw [hW8]
    show (W7.heap.modify g _)[g]? = _
    rw [Array.getElem?_modify, if_pos rfl, hcur]; rfl
  have hoth : ∀ j, j ≠ g → W8.heap[j]? = W7.heap[j]? := fun j hj => by
    rw [hW8]
    show (W7.heap.modify g _)[j]? = _
    rw [Array.getElem?_modify, if_neg (fun e => hj e.symm)]
  have hsz8 : W8.heap.size = W7.heap.size := by rw [hW8]; show (W7.heap.modify g _).size = _; rw [Array.size_modify]
  have hos : W8.os = W7.os ∧ W8.tape = W7.tape ∧ W8.output = W7.output := by rw [hW8]; exact ⟨rfl, rfl, rfl⟩
  rw [← hW8]
  clear hW8
  unfold PutRP
  rw [hE.1, hE.2]
  refine ⟨rfl, _, (fun j => T j ∨ j = g5), ⟨(hoth r (fun e => hgr e.symm)).trans hq.row, ?_, hok, ?_⟩, ?_, ?_, .inl rfl⟩
  · refine ⟨cs.take (i * 3) ++ [Value.int .i64 k, .slice (some ⟨g5, 0, none⟩) n c5, .int .i64 t] ++ cs.drop (i * 3 + 3), ?_, ?_⟩
    · have hlen : (cur.toList.take (i * 3) ++ [Value.int .i64 k, .slice (some ⟨g5, 0, none⟩) n c5, .int .i64 t] ++ cur.toList.drop (i * 3 + 3)).length = cv * 3 := by
        simp only [List.length_append, List.length_take, List.length_drop, Array.length_toList, List.length_cons, List.length_nil]
        omega
      have hcsl : cs.length = ln * 3 := by rw [hitem.len, hln]
      refine ⟨?_, .inr ⟨g, cv, _, by rw [List.length_set, hln], Nat.zero_le _, hrow8, by rw [List.length_set, ← hln]; exact hlc, hmx, by rw [List.size_toArray]; exact hlen, ?_⟩⟩
      · simp only [List.length_append, List.length_take, List.length_drop, List.length_cons, List.length_nil, List.length_set]
        omega
      · rw [List.length_set, ← hln]
        have := splice_take cur.toList [Value.int .i64 k, .slice (some ⟨g5, 0, none⟩) n c5, .int .i64 t] (i * 3) (ln * 3) (by simp; omega) (by rw [Array.length_toList]; omega)
        rw [htk] at this
        exact this
    · have hT7 : ∀ j, (T j ∨ j = g5) → j < W7.heap.size → W8.heap[j]? = W7.heap[j]? := fun j hj _ => hoth j (by
        rcases hj with hj | hj
        · exact fun e => (hq.sep j hj).2.2 (by rw [e]; rfl)
        · omega)
      have hby : Byt W7 W7.heap.size (some ⟨g5, 0, none⟩) d := by
        rw [hn] at o7
        exact o7.byt lt7
      have h1 := ItemC.mono (T' := fun j => T j ∨ j = g5) (fun j hj => .inl hj) (fun D m hb hD => byt_T hb (fun j hj hjl => hT7 j (.inl hj) hjl) (by omega) hD) hitem
      have h2 := ItemC.set (k := k) (D := some ⟨g5, 0, none⟩) (c := c5) (x := (d, t.toNat)) (T := fun j => T j ∨ j = g5) (w := W8) (i := i) hle5 (byt_T (T := fun j => T j ∨ j = g5) hby hT7 (by omega) (fun x hx => by cases hx; exact .inr rfl)) (fun a ha => by cases ha; exact .inr rfl) h1 (by omega)
      have e1 : ((t.toNat : Nat) : Int) = t := by omega
      dsimp only at h2
      rw [e1, ← hn] at h2
      exact h2
  · rintro j (hj | rfl)
    · obtain ⟨a, b, c⟩ := hq.sep j hj
      exact ⟨by omega, b, c⟩
    · refine ⟨by omega, by omega, ?_⟩
      simp only [Value.ownBlock, ne_eq, Option.some.injEq]
      omega
  · rintro j (hj | rfl)
    · exact .inl hj
    · exact .inr g5l
  · exact ⟨hos.1.trans b7.os, hos.2.1.trans b7.tape, hos.2.2.trans b7.output, by have := b7.size; omega, fun j hj h1 h2 => (hoth j (fun e => h2 (by rw [e]; rfl))).trans (b7.block j hj)⟩
set_option maxHeartbeats 8000000 in
theorem putR_any (w : World) (r : Nat) (most : Int) (v : Value) (R : List (Int × Nw)) (T : Nat → Prop) (k : Int) (d : List UInt8) (A : Option Addr) (c : Nat) (t : Int) (h : RefQ w r most v R T) (hl : R.length ≤ 4096) (hk : -9223372036854775808 ≤ k ∧ k ≤ 9223372036854775807)
    (hd : Byt w w.heap.size A d) (hdl : d.length ≤ 140737488351232) :
    Calls Try.prog 13 #[.pointer (some ⟨r, 0, none⟩), .int .i64 k, .slice A d.length c, .int .i64 t] w (PutRP w r most v R T k d t) := by
  have HW := hide h
  have HF1 : Hid ((t < 1 ∨ t > 1000 ∨ d.length = 0) → PutRP w r most v R T k d t (.returned (.int .i64 1)) w) := hide (fun e => by
    have e1 : putE most R k d t = 1 := by unfold putE; rw [if_pos e]
    unfold PutRP putL
    rw [e1, if_neg (by decide)]
    exact ⟨rfl, v, T, HW.out, fun g hg => .inl hg, KeepR.of_below (Below.refl _ _), .inl rfl⟩)
  obtain ⟨n, hn⟩ : ∃ n, n = d.length := ⟨_, rfl⟩
  by_cases h1 : t < 1
  · have HF := hide (HF1.out (.inl h1))
    rw [← hn]
    clear h hd hn HF1
    go_enter Try.func13, Try.ntmps13
    go_wp2
    go_ret
    exact HF.out
  by_cases h2 : t > 1000
  · have HF := hide (HF1.out (.inr (.inl h2)))
    rw [← hn]
    clear h hd hn HF1
    go_enter Try.func13, Try.ntmps13
    go_wp2
    go_ret
    exact HF.out
  by_cases h3 : n = 0
  · have HF := hide (HF1.out (.inr (.inr (by omega))))
    rw [← hn]
    have hz : ((n : Int) == 0) = true := by rw [h3]; rfl
    clear h hd hn HF1 h3
    go_enter Try.func13, Try.ntmps13
    go_wp2
    go_ret
    exact HF.out
  · have hz : ((n : Int) == 0) = false := by simp; omega
    have HD := hide hd
    have HDL := hide hdl
    have HN := hide hn
    have HT := hide (show 1 ≤ t ∧ t ≤ 1000 by omega)
    have HK := hide hk
    have HN0 := hide (show 0 < n by omega)
    have HNIL : Hid (A = none → c = 0) := hide (fun e => by
      obtain ⟨b, off, e2, _⟩ := hd (by omega)
      rw [e] at e2; cases e2)
    rw [← hn]
    clear h hd hn HF1 h3 hdl
    go_enter Try.func13, Try.ntmps13
    go_wp2_with (first
      | (at_builtin; refine wpList_app_bytes rfl (.tmp 23) (.tmp 24) rfl w.heap.size _ [] d w.heap.size c A rfl (by rw [← HN.out]; rfl) (OwnB.nil _ _) HD.out HNIL.out (by simp; have := HDL.out; omega) (Nat.le_refl _) ?_)
      | fail)
    intro v5 w5 hown5 hgrow5 hat5
    have B5 := hide ((Below.refl w.heap.size w).grown hgrow5 (Nat.le_refl _) (fun g hg => by cases hg))
    obtain ⟨g5, c5, ev5, hle5, hg5, hlt5⟩ := hown5.pos (by rw [← HN.out]; exact HN0.out)
    rw [← HN.out] at ev5
    subst ev5
    have O5 := hide hown5
    have HG5 := hide hg5
    have HLT5 := hide hlt5
    have HLE5 := hide hle5
    clear hown5 hgrow5 hat5 hg5 hlt5 hle5
    have Q5 := hide (HW.out.below B5.out (Nat.le_refl _))
    have KF := findR_any w5 r most v R T k Q5.out hl
    obtain ⟨Av, cv, hv, -, -⟩ := Q5.out.items.slice
    obtain ⟨ln, hln⟩ : ∃ x, x = R.length := ⟨_, rfl⟩
    rw [← hln] at hv
    subst hv
    have HLN := hide hln
    have c0 : w5.cell? ⟨r, 0, none⟩ = some (.int .i64 most) := (cell_of_row w5 r 0 _ _ (0, 0) Q5.out.row).trans rfl
    have c1 : w5.cell? ⟨r, 1, none⟩ = some (.slice Av ln cv) := (cell_of_row w5 r 1 _ _ (0, 0) Q5.out.row).trans rfl
    have HLL := hide hl
    clear hln hl
    cases hp : posQ k R with
    | none =>
      rw [posI_none hp] at KF
      have HP := hide (posQ_none hp)
      have HE : Hid (putE most R k d t = if most ≤ (ln : Int) then 4 else 0) := hide (by
        unfold putE fullQ hasQ
        rw [if_neg (by have := HT.out; have := HN.out; have := HN0.out; omega), HP.out.1, HLN.out]
        simp)
      clear hp
      go_wp2_with fail
      refine KF.mono ?_
      rintro e w6 ⟨rfl, hw6⟩
      replace hw6 := hw6.symm
      subst hw6
      dsimp only
      clear KF
      have R0 : ∀ p : BW w5, p.w.cell? ⟨r, 0, none⟩ = some (.int .i64 most) := fun p => p.cell c0
      have R1 : ∀ p : BW w5, p.w.cell? ⟨r, 1, none⟩ = some (.slice Av ln cv) := fun p => p.cell c1
      obtain ⟨b, hb⟩ : ∃ b, b = decide (most ≤ (ln : Int)) := ⟨_, rfl⟩
      have hb' : decide ((ln : Int) ≥ most) = b := hb.symm
      have HB := hide hb
      clear hb c0 c1
      go_upto_region 6 with (fail)
      refine wp_region_below w5 (Below.refl _ _) (by kernel_rfl) (by kernel_rfl) ?_
      repeat (go_big_quiet_step (fail))
      refine wpQuiet_nil ?_
      intro _ hw'
      obtain ⟨pq, hw2'⟩ := hw'
      subst hw2'
      have B6 := hide (B5.out.trans (pq.below.mono B5.out.size))
      have Q6 := hide (Q5.out.below pq.below (Nat.le_refl _))
      have O6 := hide (ownB_below O5.out pq.below)
      have HLT6 := hide (Nat.lt_of_lt_of_le HLT5.out pq.below.size)
      obtain ⟨W6, hW6⟩ : ∃ W, W = pq.w := ⟨_, rfl⟩
      rw [← hW6] at B6 Q6 O6 HLT6 ⊢
      clear R0 R1 hW6 pq Q5 O5 HLT5
      cases b
      · have hnf : ¬ most ≤ (ln : Int) := of_decide_eq_false HB.out.symm
        have HE0 : Hid (putE most R k d t = 0 ∧ putL most R k d t = R ++ [(k, (d, t.toNat))]) := hide (by
          have h0 : putE most R k d t = 0 := by rw [HE.out, if_neg hnf]
          exact ⟨h0, by unfold putL; rw [if_pos h0, HP.out.2]⟩)
        clear hnf
        go_upto_region 10 with (fail)
        change Code.wp _ _ _ _ (W6.alloc (.cells #[.int .i64 k, .slice (some ⟨g5, 0, none⟩) n c5, .int .i64 t] 65))
        obtain ⟨W7, hw7, r7, z7, b7⟩ := alloc_nm W6 (.cells #[.int .i64 k, .slice (some ⟨g5, 0, none⟩) n c5, .int .i64 t] 65)
        rw [hw7]
        have B7 := hide (B6.out.trans (b7.mono B6.out.size))
        have Q7 := hide (Q6.out.below b7 (Nat.le_refl _))
        have O7 := hide (ownB_below O6.out b7)
        have HLT7 := hide (Nat.lt_of_lt_of_le HLT6.out b7.size)
        obtain ⟨G7, hG7⟩ : ∃ G, G = W6.heap.size := ⟨_, rfl⟩
        rw [← hG7] at r7
        rw [← hG7]
        have HGT : LtN G7 W7.heap.size := by unfold LtN; omega
        clear hw7 z7 b7 hG7 Q6 O6 HLT6
        obtain ⟨cs, hrow, hitem⟩ := Q7.out.items
        rw [← HLN.out] at hrow
        have HROW := hide hrow
        have HITEM := hide hitem
        obtain ⟨i0, hi, hz0, hz1, hz2⟩ := info_parts info_ri
        have rl : r < W7.heap.size := (Array.getElem?_eq_some_iff.1 Q7.out.row).1
        have HRL := hide rl
        have HNE : Hid ((Value.slice Av ln cv).ownBlock ≠ some r) := hide (own_neT hrow Q7.out.row (by decide))
        have e1 : W7.drew.cell? ⟨r, 1, none⟩ = some (.slice Av ln cv) := (cell_of_row W7 r 1 _ _ (0, 0) Q7.out.row).trans rfl
        have e2 : ∀ o, (W7.alloc o).cell? ⟨r, 1, none⟩ = some (.slice Av ln cv) := fun o => (World.cell?_alloc_lt _ _ ⟨r, 1, none⟩ rl).trans e1
        have r7' : W7.drew.heap[G7]? = some (.cells #[.int .i64 k, .slice (some ⟨g5, 0, none⟩) n c5, .int .i64 t] 65 (0, 0)) := r7
        have HA := hide (World.ownsRow.drew (World.ownsRow.alloc hrow (.cells #[.int .i64 k, .slice (some ⟨g5, 0, none⟩) n c5, .int .i64 t] 65)))
        have hlnb : ln ≤ 4096 := by rw [HLN.out]; exact HLL.out
        have HZ2 : Hid (ln + 1 ≤ maxLen) := hide (by unfold maxLen; omega)
        have HZ3 : Hid ((ln + 1) * 40 ≤ 140737488355328) := hide (by omega)
        have HX := hide Q7.out.row
        clear hrow hitem rl hlnb
        go_region_law (first
          | (refine step_append_lies _ (by rfl) (.tmp 53) (.tmp 55) 47 (by rfl) 0 65 i0 _ 3 40 Try.underlying47 hi hz0 hz1 hz2 rfl (by decide) (.slice Av ln cv) ln cs (by rfl) HA.out
               ⟨W7.heap.size, 0, none⟩ 1 1 [Value.int .i64 k, .slice (some ⟨g5, 0, none⟩) n c5, .int .i64 t] (by rfl) (by rfl) (World.news_of_block (cs := #[.int .i64 k, .slice (some ⟨g5, 0, none⟩) n c5, .int .i64 t]) (t := 65) (fr := (0, 0)) (heap_alloc_new W7 _)) (by simp [Value.oneCell']) (by decide) HZ2.out HZ3.out (Nat.zero_le _) (W7.heap.size + 1) (by simp) ?_
             intro gg cap w8 o8 g8 t8 l8
             have X8 := hide ((g8.block r (Nat.lt_of_lt_of_le HRL.out (by simp)) (fun e => HNE.out e.symm)).trans ((heap_alloc_old _ _ HRL.out).trans HX.out))
             have c8 := (cell_of_row w8 r 1 _ _ (0, 0) X8.out).trans rfl
             have f8 : w8.frozen? ⟨r, 1, none⟩ = false := by simp [World.frozen?, X8.out]
             have O8 := hide o8
             have G8 := hide g8
             have T8 := hide t8
             clear o8 g8 t8 l8)
          )
        all_goals (
          have HF := hide (put_end (X := .cells #[.int .i64 k, .slice (some ⟨g5, 0, none⟩) n c5, .int .i64 t] 65) (Array.getElem?_eq_some_iff.1 HW.out.row).1 Q7.out HLN.out B7.out (fun g hg => (HW.out.sep g hg).1) (fun g hg => (World.ownsRow.lt HW.out.items.choose_spec.1 g hg).2) O7.out HN.out HG5.out HLT7.out HITEM.out O8.out G8.out T8.out X8.out HT.out HE0.out (by
            have h0 := HW.out.ok.put k (d, t.toNat) ⟨HK.out, by dsimp only; rw [← HN.out]; exact HN0.out, by have := HDL.out; dsimp only; omega, by have := HT.out; dsimp only; omega, by have := HT.out; dsimp only; omega⟩
            rw [HP.out.2] at h0
            exact h0))
          clear X8 c8 f8 O8 G8 T8 HA HITEM HROW
          go_wp2
          go_ret
          exact HF.out)
      · have HF : Hid (PutRP w r most (.slice Av ln cv) R T k d t (.returned (.int .i64 4)) W6) := hide (by
          have h4 : putE most R k d t = 4 := by rw [HE.out, if_pos (of_decide_eq_true HB.out.symm)]
          unfold PutRP putL
          rw [h4, if_neg (by decide)]
          exact ⟨rfl, _, T, HW.out.keep (fun i _ hi => B6.out.block i hi) B6.out.size, fun g hg => .inl hg, KeepR.of_below B6.out, .inl rfl⟩)
        go_wp2
        go_ret
        exact HF.out
    | some i =>
      rw [posI_some hp] at KF
      obtain ⟨hil, -, hlk, hput⟩ := posQ_some hp
      have hiln : i < ln := by rw [HLN.out]; exact hil
      have HE0 : Hid (putE most R k d t = 0 ∧ putL most R k d t = R.set i (k, (d, t.toNat))) := hide (by
        have h0 : putE most R k d t = 0 := by
          unfold putE fullQ hasQ
          rw [if_neg (by have := HT.out; have := HN.out; have := HN0.out; omega), hlk]
          simp
        exact ⟨h0, by unfold putL; rw [if_pos h0, hput]⟩)
      have HOK : Hid (OkQ (R.set i (k, (d, t.toNat)))) := hide (by
        have h0 := HW.out.ok.put k (d, t.toNat) ⟨HK.out, by dsimp only; rw [← HN.out]; exact HN0.out, by have := HDL.out; dsimp only; omega, by have := HT.out; dsimp only; omega, by have := HT.out; dsimp only; omega⟩
        rw [hput] at h0
        exact h0)
      have hi0 : (0 : Int) ≤ (i : Int) := by omega
      have hi1 : (i : Int) < (ln : Int) := by omega
      have hin : ¬ (i : Int) < 0 := by omega
      have hib : decide ((i : Int) < 0) = false := decide_eq_false hin
      clear hp hlk hput hil
      go_wp2_with fail
      refine KF.mono ?_
      rintro e w6 ⟨rfl, hw6⟩
      replace hw6 := hw6.symm
      subst hw6
      dsimp only
      clear KF c0 c1
      go_upto_region 6 with (fail)
      refine wp_region_below w5 (Below.refl _ _) (by kernel_rfl) (by kernel_rfl) ?_
      repeat (go_big_quiet_step (fail))
      refine wpQuiet_nil ?_
      intro _ hw'
      obtain ⟨pq, hw2'⟩ := hw'
      subst hw2'
      have B6 := hide (B5.out.trans (pq.below.mono B5.out.size))
      have Q6 := hide (Q5.out.below pq.below (Nat.le_refl _))
      have O6 := hide (ownB_below O5.out pq.below)
      have HLT6 := hide (Nat.lt_of_lt_of_le HLT5.out pq.below.size)
      obtain ⟨W6, hW6⟩ : ∃ W, W = pq.w := ⟨_, rfl⟩
      rw [← hW6] at B6 Q6 O6 HLT6 ⊢
      clear hW6 pq Q5 O5 HLT5
      go_upto_region 11 with (fail)
      change Code.wp _ _ _ _ (W6.alloc (.cells #[.int .i64 k, .slice (some ⟨g5, 0, none⟩) n c5, .int .i64 t] 65))
      obtain ⟨W7, hw7, r7, z7, b7⟩ := alloc_nm W6 (.cells #[.int .i64 k, .slice (some ⟨g5, 0, none⟩) n c5, .int .i64 t] 65)
      rw [hw7]
      have B7 := hide (B6.out.trans (b7.mono B6.out.size))
      have Q7 := hide (Q6.out.below b7 (Nat.le_refl _))
      have O7 := hide (ownB_below O6.out b7)
      have HLT7 := hide (Nat.lt_of_lt_of_le HLT6.out b7.size)
      obtain ⟨G7, hG7⟩ : ∃ G, G = W6.heap.size := ⟨_, rfl⟩
      rw [← hG7] at r7
      rw [← hG7]
      clear hw7 z7 b7 hG7 Q6 O6 HLT6
      obtain ⟨cs, hrow, hitem⟩ := Q7.out.items
      rw [← HLN.out] at hrow
      have e1 : W7.drew.cell? ⟨r, 1, none⟩ = some (.slice Av ln cv) := (cell_of_row W7 r 1 _ _ (0, 0) Q7.out.row).trans rfl
      have r7' : W7.drew.heap[G7]? = some (.cells #[.int .i64 k, .slice (some ⟨g5, 0, none⟩) n c5, .int .i64 t] 65 (0, 0)) := r7
      rcases hrow.2 with ⟨e0, h0⟩ | ⟨g, cap, cur, ev, -, hg, hnc, hmx, hsz, htk⟩
      · omega
      simp only [Value.slice.injEq, true_and] at ev
      obtain ⟨rfl, rfl⟩ := ev
      have hst := run_storeCells_at (P := Try.prog) g (i * 3) 65 [Value.int .i64 k, .slice (some ⟨g5, 0, none⟩) n c5, .int .i64 t] 0 cur W7.drew hg (by rw [hsz]; simp; omega) (by intro u hu; simp at hu; rcases hu with rfl | rfl | rfl <;> rfl)
      have HEND := hide (set_end (Array.getElem?_eq_some_iff.1 HW.out.row).1 Q7.out HLN.out B7.out (fun j hj => (HW.out.sep j hj).1) (World.ownsRow.lt HW.out.items.choose_spec.1 g rfl).2 O7.out HN.out HG5.out HLT7.out HLE5.out hitem hg hnc hmx hsz htk hiln HT.out HE0.out HOK.out)
      obtain ⟨W8, hW8⟩ : ∃ W, W = W7.drew.setRow g (cur.toList.take (i * 3 + 0) ++ [Value.int .i64 k, .slice (some ⟨g5, 0, none⟩) n c5, .int .i64 t] ++ cur.toList.drop (i * 3 + 0 + 3)).toArray := ⟨_, rfl⟩
      rw [← hW8] at HEND
      change (storeCells ⟨g, i * 3, none⟩ [Value.int .i64 k, .slice (some ⟨g5, 0, none⟩) n c5, .int .i64 t] 0).run Try.prog W7.drew = .ok () (W7.drew.setRow g (cur.toList.take (i * 3 + 0) ++ [Value.int .i64 k, .slice (some ⟨g5, 0, none⟩) n c5, .int .i64 t] ++ cur.toList.drop (i * 3 + 0 + 3)).toArray) at hst
      rw [← hW8] at hst
      clear hW8 hrow hitem hg hnc hmx hsz htk
      go_still_tail 7, (by kernel_rfl)
      refine wpList_store_ran rfl 65 (.tmp 65) (.tmp 64) rfl g (i * 3) rfl _ rfl (by kernel_rfl) hst ?_
      go_wp2
      go_ret
      exact HEND.out
end Go.Proofs.Ytajpibopknpmmaa
