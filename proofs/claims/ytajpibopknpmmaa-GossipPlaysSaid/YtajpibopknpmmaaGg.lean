/-
  News told: bytes copied; one more behind those that were told already.
-/
import Derived.Test.YtajpibopknpmmaaGd
import Derived.Test.YtajpibopknpmmaaOr
import Derived.Lib.SliceRun
namespace Go.Proofs.Ytajpibopknpmmaa
open Go.RowKit
set_option maxRecDepth 100000
set_option linter.unusedVariables false
set_option linter.unusedSimpArgs false
attribute [local go_sem ↓] exec_span exec_put exec_build heap_alloc_new heap_old
attribute [local go_sem] spanQ_ptr spanC_some heap_of_drew heap_of_drewN putAt_ptr putOk_ptr oldOk_some World.setRow_alloc_new

set_option maxHeartbeats 2000000 in
theorem cloneB_any (w : World) (ad : Addr) (c : Nat) (l : List UInt8) (hb : Byt w w.heap.size (some ad) l) (hl : l.length ≤ 140737488355328) :
    Calls Try.prog 31 #[.slice (some ad) l.length c] w fun e w' => ∃ v, e = .returned v ∧ OwnB w' w.heap.size v l ∧ Below w.heap.size w w' := by
  obtain ⟨n, hn'⟩ : ∃ n, n = l.length := ⟨_, rfl⟩
  have hown0 : Hid (OwnB (w.alloc (.cells #[] 5)) w.heap.size (.slice (some ⟨w.heap.size, 0, none⟩) 0 0) []) := hide (by
    have := World.ownsRow_lit (e := 5) (size := 1) (base := w.heap.size) w #[] 0 (Nat.le_refl _) (by unfold maxLen; omega) (by simp)
    simpa [OwnB] using this)
  have hb2 : Hid (Byt (w.alloc (.cells #[] 5)) (w.heap.size + 1) (some ad) l) := hide ((hb.below ((Below.refl _ _).alloc (Nat.le_refl _) _)).more (by omega))
  have hZ : Hid (w.heap.size ≤ (w.alloc (.cells #[] 5)).heap.size) := hide (by simp)
  have hcmp : ∀ W : World, (binOp .eql 30 (.slice (some ad) n c) (.slice none 0 0)).run Try.prog W = .ok (.bool false) W := fun W => Go.Lib.run_eql_slice_nil W _ _ (some ad) n c 0 0 Try.underlying30
  have HN := hide hn'
  have HL := hide hl
  rw [← hn']
  clear hb hl hn'
  go_enter Try.func31, Try.ntmps31
  go_wp2_with (first
    | (at_builtin; refine wpList_app_bytes rfl (.tmp 5) (.tmp 6) rfl w.heap.size _ [] l (w.heap.size + 1) c (some ad) rfl (by rw [← HN.out]; rfl) hown0.out hb2.out (fun e => by cases e) (by simpa using HL.out) hZ.out ?_)
    | fail)
  intro v5 w5 hown5 hgrow5 hat5
  have HO5 : Hid (OwnB w5 w.heap.size v5 l) := hide (by simpa using hown5)
  have HB5 : Hid (Below w.heap.size w w5) := hide (((Below.refl _ _).alloc (Nat.le_refl _) _).grown hgrow5 hZ.out (fun g hg => (World.ownsRow.lt hown0.out g hg).1))
  clear hown5 hgrow5 hat5 hown0 hb2
  go_wp2
  go_ret
  exact ⟨_, rfl, HO5.out, HB5.out⟩
theorem own_neT {w : World} {base g n s : Nat} {e t : TypeId} {v : Value} {xs : List Value} {cs : Array Value} {fr : Nat × Nat} (h : w.ownsRow base e s v n xs) (hb : w.heap[g]? = some (.cells cs t fr)) (hne : e ≠ t) : v.ownBlock ≠ some g := by
  rcases h.2 with ⟨e1, _⟩ | ⟨g', cap, cur, e1, _, hh, _⟩
  · rw [e1]; simp [Value.ownBlock]
  · rw [e1]
    simp only [Value.ownBlock, ne_eq, Option.some.injEq]
    rintro rfl
    rw [hb] at hh
    injection hh with hh
    injection hh with _ h2
    exact hne h2.symm
/-- what was told, in the memory: each one's bytes in a row of the call's own. -/
def NewsC (w : World) (base : Nat) : List Value → List (Int × List UInt8) → Prop
  | [], [] => True
  | a :: b :: s, p :: t => a = .int .i64 p.1 ∧ OwnB w base b p.2 ∧ NewsC w base s t
  | _, _ => False
theorem NewsC.len {w : World} {base : Nat} : ∀ {cs : List Value} {l : List (Int × List UInt8)}, NewsC w base cs l → cs.length = l.length * 2
  | [], [], _ => rfl
  | a :: b :: s, p :: t, h => by have := NewsC.len h.2.2; simp only [List.length_cons]; omega
  | [], _ :: _, h => h.elim
  | [_], _, h => by unfold NewsC at h; exact h.elim
  | _ :: _ :: _, [], h => h.elim
theorem NewsC.mono {w w' : World} {base : Nat} (hk : ∀ v l, OwnB w base v l → OwnB w' base v l) : ∀ {cs : List Value} {l : List (Int × List UInt8)}, NewsC w base cs l → NewsC w' base cs l
  | [], [], _ => trivial
  | a :: b :: s, p :: t, h => ⟨h.1, hk _ _ h.2.1, NewsC.mono hk h.2.2⟩
  | [], _ :: _, h => h.elim
  | [_], _, h => by unfold NewsC at h; exact h.elim
  | _ :: _ :: _, [], h => h.elim
theorem NewsC.snoc {w : World} {base : Nat} {k : Int} {v : Value} {d : List UInt8} (hv : OwnB w base v d) : ∀ {cs : List Value} {l : List (Int × List UInt8)}, NewsC w base cs l → NewsC w base (cs ++ [.int .i64 k, v]) (l ++ [(k, d)])
  | [], [], _ => ⟨rfl, hv, trivial⟩
  | a :: b :: s, p :: t, h => ⟨h.1, h.2.1, NewsC.snoc hv h.2.2⟩
  | [], _ :: _, h => h.elim
  | [_], _, h => by unfold NewsC at h; exact h.elim
  | _ :: _ :: _, [], h => h.elim
def NewsR (w : World) (base : Nat) (v : Value) (l : List (Int × List UInt8)) : Prop := ∃ cs, w.ownsRow base 44 2 v l.length cs ∧ NewsC w base cs l
theorem NewsR.nil (w : World) (base : Nat) : NewsR w base (.slice none 0 0) [] := ⟨[], World.ownsRow_nil _ _ _ _, trivial⟩
theorem ownB_below {w w' : World} {base : Nat} {v : Value} {l : List UInt8} (h : OwnB w base v l) (hb : Below w.heap.size w w') : OwnB w' base v l := by
  refine h.kept (grown_of_below hb) ?_
  cases hv : v.ownBlock with
  | none => exact .inl rfl
  | some k => exact .inr (by simp)
theorem ownsRow_below {w w' : World} {base n s : Nat} {e : TypeId} {v : Value} {xs : List Value} (h : w.ownsRow base e s v n xs) (hb : Below w.heap.size w w') : w'.ownsRow base e s v n xs := by
  refine World.ownsRow.kept h (grown_of_below hb) ?_
  cases hv : v.ownBlock with
  | none => exact .inl rfl
  | some k => exact .inr (by simp)
theorem NewsR.below {w w' : World} {base : Nat} {v : Value} {l : List (Int × List UInt8)} (h : NewsR w base v l) (hb : Below w.heap.size w w') : NewsR w' base v l := by
  obtain ⟨cs, h1, h2⟩ := h
  exact ⟨cs, ownsRow_below h1 hb, h2.mono fun _ _ h => ownB_below h hb⟩
/-- what is kept while one more is told: all but the box and the row. -/
structure KeepT (lb : Nat) (v : Value) (A B : World) : Prop where
  os : B.os = A.os
  tape : B.tape = A.tape
  output : B.output = A.output
  size : A.heap.size ≤ B.heap.size
  block : ∀ i, i < A.heap.size → i ≠ lb → v.ownBlock ≠ some i → B.heap[i]? = A.heap[i]?
theorem two_cells (w : World) (a b : Value) (t : TypeId) : ∀ j u, [a, b][j]? = some u → (w.alloc (.cells #[a, b] t)).cell? ⟨w.heap.size, 0 + j, none⟩ = some u := by
  intro j u hj
  rw [cell_of_row (w.alloc _) w.heap.size (0 + j) _ t (0, 0) (heap_alloc_new w _)]
  simpa using hj
/-- an append of rows of two cells as a step of a drawn region. -/
theorem step_app_two {ops : Array Oper} {o : Oper} {a : Act} {w : World} {K' : Act → World → Prop} {Q : Exit → Act → World → Prop} {E : Prop} (hgd : o.guard = none) (s x : Operand) (base t e : Nat) (i0 : TypeInfo) (z : Value) (bytes : Nat)
    (ho : o.op = .call { callee := .builtin .append, args := #[s, x], argTypes := #[t, t] }) (ht : Try.prog.underlying t = some (.slice e)) (hi : Try.prog.info? e = some i0) (hz0 : i0.zero = some z) (hz1 : i0.size = 2) (hz2 : i0.bytes = bytes) (hzs : z.cells.size = 2)
    (v : Value) (n : Nat) (xs : List Value) (A : Option Addr) (m c : Nat) (news : List Value) (hs : a.eval s = v) (hx : a.eval x = .slice A m c) (hown : w.ownsRow base e 2 v n xs) (hl : news.length = m * 2) (hnews : 0 < m → ∃ b off, A = some ⟨b, off, none⟩ ∧ ∀ j u, news[j]? = some u → w.cell? ⟨b, off + j, none⟩ = some u) (hnil : A = none → c = 0) (h1 : ∀ u ∈ news, u.oneCell' = true)
    (h63 : n + m ≤ maxLen) (hbytes : (n + m) * bytes ≤ 140737488355328) (hbase : base ≤ w.heap.size)
    (h : ∀ v' w', w'.ownsRow base e 2 v' (n + m) (xs ++ news) → w.grownBy w' v.ownBlock → (v'.ownBlock = v.ownBlock ∨ v'.ownBlock = some w.heap.size) → K' (a.put o.dst v') w') : if Region.wanted o (yielded ops a.tmps) = true then Oper.wp Try.prog o a w K' Q else E := by
  have hw : Region.wanted o (yielded ops a.tmps) = true := by simp [Region.wanted, hgd]
  rw [if_pos hw]
  obtain ⟨v', w', hr, h2, h3, h4⟩ := run_app_two w base t e o.type i0 z bytes ht hi hz0 hz1 hz2 hzs v n xs hown A m c news hl hnews hnil h1 h63 hbytes hbase
  unfold Oper.wp execOp
  simp only [ho, resolve, invoke, builtin, Sem.run_bind, Sem.run_pure, Result.andThen_ok, List.map_toArray, List.map_cons, List.map_nil, hs, hx, hr]
  exact h v' w' h2 h3 h4
theorem KeepT.of {lb : Nat} {v : Value} {A B C : World} (h : Below A.heap.size A B) (g : B.grownBy C v.ownBlock) : KeepT lb v A C :=
  ⟨g.os.trans h.os, g.tape.trans h.tape, g.output.trans h.output, Nat.le_trans h.size g.size, fun i hi _ hv => (g.block i (Nat.lt_of_lt_of_le hi h.size) (fun e => hv e.symm)).trans (h.block i hi)⟩
theorem info_news : (Try.prog.info? 44).map (fun i => (i.zero, i.size, i.bytes)) = some (some (.agg #[.int .i64 0, .slice none 0 0]), 2, 32) := by kernel_rfl
theorem built_news (k : Int) (A : Option Addr) (n c : Nat) : Try.prog.built 44 [(0, .int .i64 k), (1, .slice A n c)] = some #[.int .i64 k, .slice A n c] := by kernel_rfl
theorem rs_news : rowSize Try.prog 44 = some 2 := by kernel_rfl
attribute [local go_sem] rs_news built_news
theorem own_ne2 {w : World} {base base' n n' s s' : Nat} {e e' : TypeId} {v v' : Value} {xs xs' : List Value} (h : w.ownsRow base e s v n xs) (h' : w.ownsRow base' e' s' v' n' xs') (hne : e ≠ e') : v.ownBlock = none ∨ v.ownBlock ≠ v'.ownBlock := by
  rcases h'.2 with ⟨e1, _⟩ | ⟨g', cap, cur, e1, _, hh, _⟩
  · rw [e1]
    cases hv : v.ownBlock with
    | none => exact .inl rfl
    | some k => exact .inr (by simp [Value.ownBlock])
  · rw [e1]
    exact .inr (own_neT h hh hne)
theorem row_pos {w : World} {base n s : Nat} {e : TypeId} {v : Value} {xs : List Value} (h : w.ownsRow base e s v n xs) (hn : 0 < n) : ∃ g c, v = .slice (some ⟨g, 0, none⟩) n c := by
  rcases h.2 with ⟨_, h0⟩ | ⟨g, cap, cur, h1, _⟩
  · omega
  · exact ⟨g, cap, h1⟩
theorem row_mono {w : World} {base base' : Nat} {e : TypeId} {size : Nat} {v : Value} {n : Nat} {xs : List Value} (h : w.ownsRow base e size v n xs) (hb : base' ≤ base) : w.ownsRow base' e size v n xs :=
  ⟨h.1, h.2.imp id fun ⟨g, cap, cur, h1, h2, h3⟩ => ⟨g, cap, cur, h1, Nat.le_trans hb h2, h3⟩⟩
theorem grown_set (w : World) (g i : Nat) (u : Value) : w.grownBy (w.setCell ⟨g, i, none⟩ u) (some g) :=
  ⟨rfl, rfl, rfl, by simp [World.setCell], fun k hk hne => by
    unfold World.setCell
    rw [Array.getElem?_modify, if_neg (fun e => hne (by dsimp only at e; rw [e]))]⟩
theorem tell_end {W w2 w6 : World} {base lb n cc2 : Nat} {v v6 : Value} {l : List (Int × List UInt8)} {cs : List Value} {k : Int} {d : List UInt8} {A2 : Option Addr} {X : Obj} (hlb : lb < base) (hbs : base ≤ W.heap.size) (hlt : lb < W.heap.size) (hx : W.heap[lb]? = some (.cells #[v] 37 (0, 0)))
    (h1 : W.ownsRow base 44 2 v l.length cs) (h2 : NewsC W base cs l) (hn : n = d.length) (b2 : Below W.heap.size W w2) (o2 : OwnB w2 W.heap.size (.slice A2 n cc2) d)
    (o6 : w6.ownsRow base 44 2 v6 (l.length + 1) (cs ++ [.int .i64 k, .slice A2 n cc2])) (g6 : (w2.alloc X).grownBy w6 v.ownBlock) (x6 : w6.heap[lb]? = some (.cells #[v] 37 (0, 0))) (hne : v.ownBlock ≠ some lb) :
    ∃ v', (w6.setCell ⟨lb, 0, none⟩ v6).heap[lb]? = some (.cells #[v'] 37 (0, 0)) ∧ NewsR (w6.setCell ⟨lb, 0, none⟩ v6) base v' (l ++ [(k, d)]) ∧ KeepT lb v W (w6.setCell ⟨lb, 0, none⟩ v6) := by
  have bX : Below W.heap.size W (w2.alloc X) := b2.alloc b2.size X
  have hv2 := ownsRow_below h1 bX
  have hlt6 : lb < w6.heap.size := (Array.getElem?_eq_some_iff.1 x6).1
  have hs6 : w6.grownBy (w6.setCell ⟨lb, 0, none⟩ v6) (some lb) := grown_set w6 lb 0 v6
  have hk6 : ∀ u m, OwnB (w2.alloc X) base u m → OwnB (w6.setCell ⟨lb, 0, none⟩ v6) base u m := fun u m h => by
    have h6 := h.kept g6 (own_ne2 h hv2 (by decide))
    exact h6.kept hs6 (.inr (own_neT h6 x6 (by decide)))
  have hnv : v6.ownBlock ≠ some lb := own_neT o6 x6 (by decide)
  refine ⟨v6, ?_, ⟨cs ++ [.int .i64 k, .slice A2 n cc2], ?_, ?_⟩, ?_⟩
  · unfold World.setCell
    rw [Array.getElem?_modify, if_pos rfl, x6]; rfl
  · rw [List.length_append]
    exact World.ownsRow.kept o6 hs6 (.inr hnv)
  · refine NewsC.snoc (hk6 _ _ ?_) (NewsC.mono (fun u m h => hk6 u m (ownB_below h bX)) h2)
    have := (row_mono o2 hbs : w2.ownsRow base 5 1 (.slice A2 n cc2) d.length (d.map byteV))
    exact World.ownsRow.alloc this X
  · have := KeepT.of (lb := lb) bX g6
    refine ⟨this.os, this.tape, this.output, Nat.le_trans this.size hs6.size, fun i hi h3 h4 => ?_⟩
    exact (hs6.block i (Nat.lt_of_lt_of_le hi this.size) (fun e => h3 (by cases e; rfl))).trans (this.block i hi h3 h4)
set_option maxHeartbeats 4000000 in
theorem tellF_any (W : World) (base lb : Nat) (v : Value) (l : List (Int × List UInt8)) (k : Int) (d : List UInt8) (ad : Addr) (c : Nat) (hbx : W.heap[lb]? = some (.cells #[v] 37 (0, 0))) (hlb : lb < base) (hbs : base ≤ W.heap.size) (hr : NewsR W base v l) (hl : l.length ≤ 4096)
    (hd : Byt W W.heap.size (some ad) d) (hdl : d.length ≤ 140737488355328) :
    Calls Try.prog 30 #[.int .i64 k, .slice (some ad) d.length c, .pointer (some ⟨lb, 0, none⟩)] W fun e W' =>
      e = .returned (.tuple #[]) ∧ ∃ v', W'.heap[lb]? = some (.cells #[v'] 37 (0, 0)) ∧ NewsR W' base v' (l ++ [(k, d)]) ∧ KeepT lb v W W' := by
  have KC := fun w (hw : Below W.heap.size W w) => cloneB_any w ad c d ((hd.below hw).more hw.size) hdl
  have HKC := hide KC
  obtain ⟨cs, hr1, hr2⟩ := hr
  have HR1 := hide hr1
  have HR2 := hide hr2
  have c0 : W.cell? ⟨lb, 0, none⟩ = some v := (cell_of_row W lb 0 _ _ (0, 0) hbx).trans rfl
  have hlt : lb < W.heap.size := (Array.getElem?_eq_some_iff.1 hbx).1
  have f0 : ∀ w, Below W.heap.size W w → w.cell? ⟨lb, 0, none⟩ = some v := fun w hw => (hw.cell (p := ⟨lb, 0, none⟩) hlt).trans c0
  have HF0 := hide f0
  have HX := hide hbx
  have HLT := hide hlt
  have HNE : Hid (v.ownBlock ≠ some lb) := hide (own_neT hr1 hbx (by decide))
  have HBS := hide hbs
  have HLB := hide hlb
  obtain ⟨i0, hi, hz0, hz1, hz2⟩ := info_parts info_news
  have HL := hide hl
  obtain ⟨n, hn⟩ : ∃ n, n = d.length := ⟨_, rfl⟩
  rw [← hn] at HKC ⊢
  have HN := hide hn
  have bd1 : Below W.heap.size W W.drew := ⟨rfl, rfl, rfl, Nat.le_refl _, fun _ _ => rfl⟩
  have c1 := f0 _ bd1
  clear KC hr1 hr2 hd f0 hbx hdl hn hl
  go_enter Try.func30, Try.ntmps30
  go_wp2_with fail
  go_region_law (first
      | (go_simp; go_at_call 31; (with_reducible refine (HKC.out _ bd1).mono ?_); rintro e w2 ⟨v2, rfl, o2, b2⟩
         have B2 := hide (bd1.trans b2)
         have O2 := hide o2
         have c2 := HF0.out w2 (bd1.trans b2)
         have c3 : ∀ o, (w2.alloc o).cell? ⟨lb, 0, none⟩ = some v := fun o => HF0.out _ ((bd1.trans b2).alloc (bd1.trans b2).size o)
         obtain ⟨A2, cc2, ev, -⟩ := o2.shape
         have ev' : v2 = .slice A2 n cc2 := by rw [HN.out]; exact ev
         subst ev'
         clear ev b2 o2
         have HA := hide (ownsRow_below HR1.out (B2.out.alloc B2.out.size (.cells #[.int .i64 k, .slice A2 n cc2] 44)))
         have HN1 := hide (two_cells w2 (.int .i64 k) (.slice A2 n cc2) 44)
         have HO1 : Hid (∀ u ∈ [Value.int .i64 k, Value.slice A2 n cc2], u.oneCell' = true) := hide (by intro u hu; simp at hu; rcases hu with rfl | rfl <;> rfl)
         have HZ1 : Hid (base ≤ (w2.alloc (.cells #[.int .i64 k, .slice A2 n cc2] 44)).heap.size) := hide (by have := B2.out.size; have := HBS.out; simp; omega)
         have HZ2 : Hid (l.length + 1 ≤ maxLen) := hide (by have := HL.out; unfold maxLen; omega)
         have HZ3 : Hid ((l.length + 1) * 32 ≤ 140737488355328) := hide (by have := HL.out; omega))
      | (refine step_app_two rfl (.tmp 5) (.tmp 10) base 37 44 i0 _ 32 rfl Try.underlying37 hi hz0 hz1 hz2 rfl v l.length cs (some ⟨w2.heap.size, 0, none⟩) 1 1 [.int .i64 k, .slice A2 n cc2] rfl rfl HA.out rfl (fun _ => ⟨w2.heap.size, 0, rfl, HN1.out⟩) (fun e => by cases e) HO1.out HZ2.out HZ3.out HZ1.out ?_
         intro v6 w6 o6 g6 t6
         obtain ⟨g7, c7, rfl⟩ := row_pos o6 (Nat.succ_pos _)
         have X6 := hide ((g6.block lb (Nat.lt_of_lt_of_le HLT.out (B2.out.alloc B2.out.size _).size) (fun e => HNE.out e.symm)).trans (((B2.out.alloc B2.out.size _).block lb HLT.out).trans HX.out))
         have c6 := (cell_of_row w6 lb 0 _ _ (0, 0) X6.out).trans rfl
         have f6 : w6.frozen? ⟨lb, 0, none⟩ = false := by simp [World.frozen?, X6.out]
         have O6 := hide o6
         have G6 := hide g6
         clear t6 o6 g6))
  all_goals (
    have HF : Hid (∃ v', (w6.setCell ⟨lb, 0, none⟩ (.slice (some ⟨g7, 0, none⟩) (l.length + 1) c7)).heap[lb]? = some (.cells #[v'] 37 (0, 0)) ∧ NewsR (w6.setCell ⟨lb, 0, none⟩ (.slice (some ⟨g7, 0, none⟩) (l.length + 1) c7)) base v' (l ++ [(k, d)]) ∧ KeepT lb v W (w6.setCell ⟨lb, 0, none⟩ (.slice (some ⟨g7, 0, none⟩) (l.length + 1) c7))) := hide (tell_end HLB.out HBS.out HLT.out HX.out HR1.out HR2.out HN.out B2.out O2.out O6.out G6.out X6.out HNE.out)
    clear X6 c6 f6 O6 G6 HA HN1
    go_wp2
    go_end0
    exact ⟨rfl, HF.out⟩)
end Go.Proofs.Ytajpibopknpmmaa
