/-
  The pins that a question is true of: of all that live, of one backend's.
-/
import Derived.Test.YtbkipfmnbfjkcaaVs
import Derived.Test.YtbkipfmnbfjkcaaVk
import Derived.Test.YtbkipfmnbfjkcaaWha
namespace Go.Proofs.Ytbkipfmnbfjkcaa
open Go.RowKit
set_option maxRecDepth 100000
set_option linter.unusedVariables false
set_option linter.unusedSimpArgs false
attribute [local go_sem ↓] exec_span exec_put exec_build heap_alloc_new heap_old
attribute [local go_sem] spanQ_ptr spanC_some heap_of_drew heap_of_drewN putAt_ptr putOk_ptr oldOk_some World.setRow_alloc_new rs_Flow rs_Pin rs_Com rs_Sto rs_Que rs_tup built_pin0 built_com built_pin pinZ_lit tkZ_lit

theorem flA_inj {a b : Flw} (h : flA a = flA b) : a = b := by
  obtain ⟨a1, a2, a3⟩ := a
  obtain ⟨b1, b2, b3⟩ := b
  simp only [flA, Array.mk.injEq, List.cons.injEq, Value.int.injEq, true_and, and_true] at h
  obtain ⟨rfl, rfl, rfl⟩ := h
  rfl
theorem pin_inj (w : World) {a b : PinR} (h : pinA a = pinA b) : a = b := by
  have h1 : a.t = b.t := keyLaw_inj keyT w _ _ (by unfold encT; rw [← pin_tup a, ← pin_tup b, h])
  have h2 : a.f = b.f := flA_inj (by rw [← pin_flow a, ← pin_flow b, h])
  obtain ⟨y1, y2⟩ := pin_at a
  obtain ⟨z1, z2⟩ := pin_at b
  rw [h, z1] at y1
  rw [h, z2] at y2
  obtain ⟨at_, ab, ag, af⟩ := a
  obtain ⟨bt, bb, bg, bf⟩ := b
  simp at h1 h2 y1 y2
  subst h1 h2 y1 y2
  rfl
/-- entries that are the same, in whatever order, are the same pins. -/
theorem perm_pins (w : World) {l s : List PinR} (h : ((pinE l).map (fun p => (encT p.1, p.2))).Perm ((pinE s).map (fun p => (encT p.1, p.2)))) : l.Perm s := by
  have hd : ∃ dec : Value × Value → PinR, ∀ q : PinR, dec (encT q.t, Value.agg (pinA q)) = q := by
    classical
    refine ⟨fun v => if h : ∃ q : PinR, v = (encT q.t, Value.agg (pinA q)) then Classical.choose h else pinZ, fun q => ?_⟩
    have hq : ∃ q' : PinR, (encT q.t, Value.agg (pinA q)) = (encT q'.t, Value.agg (pinA q')) := ⟨q, rfl⟩
    dsimp only
    rw [dif_pos hq]
    have hcs := Classical.choose_spec hq
    generalize Classical.choose hq = c at hcs
    simp only [Prod.mk.injEq, Value.agg.injEq] at hcs
    exact (pin_inj w hcs.2).symm
  obtain ⟨dec, hdec⟩ := hd
  have := h.map dec
  unfold pinE at this
  simp only [List.map_map, Function.comp_def, hdec, List.map_id'] at this
  exact this
theorem pin_mem {l : List PinR} {k : TK} {v : Value} (h : (k, v) ∈ pinE l) : ∃ q ∈ l, k = q.t ∧ v = .agg (pinA q) := by
  unfold pinE at h
  obtain ⟨q, hq, e⟩ := List.mem_map.1 h
  simp only [Prod.mk.injEq] at e
  exact ⟨q, hq, e.1.symm, e.2.symm⟩
theorem pin_sizes (l : List PinR) : ∀ X ∈ l.map pinA, X.size = 42 := by
  intro X hX
  obtain ⟨k, _, rfl⟩ := List.mem_map.1 hX
  exact pin_size k
theorem info_pinF : (Try.prog.info? 66).map (fun i => (i.zero, i.size, i.bytes)) = some (some (.agg (pinA pinZ)), 42, 104) := by kernel_rfl
theorem below_turnV {w0 w w' : World} {b : Nat} (h : Below w0.heap.size w0 w) (hg : w.grownBy w' (some b)) (hb : w0.heap.size ≤ b) : Below w0.heap.size w0 w' := h.grown hg h.size (fun k e => by cases e; exact hb)
theorem pin_oneC (q : PinR) : ∀ u ∈ (pinA q).toList, u.oneCell' = true := by
  have := pin_one q
  unfold allOne at this
  rw [Array.all_eq_true] at this
  intro u hu
  obtain ⟨i, hi, rfl⟩ := List.getElem_of_mem hu
  have h := this i (by simpa using hi)
  simpa using h
/-- a pin appended to a row of pins. -/
theorem app_pin (w : World) (base : Nat) (v : Value) (n : Nat) (l : List PinR) (hown : w.ownsRow base 66 42 v n (flatR (l.map pinA))) (q : PinR) (g : Nat) (hg : w.heap[g]? = some (.cells (pinA q) 66 (0, 0))) (hn : n ≤ 1000000) (hbase : base ≤ w.heap.size) (ty : TypeId) :
    ∃ v' w', (Builtin.append_ #[84, 84] ty #[v, .slice (some ⟨g, 0, none⟩) 1 1]).run Try.prog w = .ok v' w' ∧ w'.ownsRow base 66 42 v' (n + 1) (flatR ((l ++ [q]).map pinA)) ∧ w.grownBy w' v.ownBlock ∧ (v'.ownBlock = v.ownBlock ∨ v'.ownBlock = some w.heap.size) := by
  obtain ⟨i0, hi0, hz0, hz1, hz2⟩ := info_parts info_pinF
  have hs := pin_size q
  obtain ⟨v', w', hr, h2, h3, _, h5⟩ := run_append_own_at (P := Try.prog) w base 84 ty 66 i0 _ 42 104 Try.underlying84 hi0 hz0 hz1 hz2 (by simpa [Value.cells] using pin_size pinZ) (by omega) v n _ hown ⟨g, 0, none⟩ 1 1 (pinA q).toList (by simp [hs]) (fun j u hj => by
      rw [add_none, cell_of_row w g _ _ _ _ hg, Nat.zero_add, ← Array.getElem?_toList]; exact hj) (pin_oneC q) (by unfold maxLen; omega) (by omega) hbase
  refine ⟨v', w', hr, ?_, h3, h5⟩
  rw [List.map_append, flatR_app]
  have : flatR [pinA q] = (pinA q).toList := by simp [flatR]
  simpa [this] using h2
theorem bs_pin16 (w : World) (sv dv : Bool) (p s d b g fp fs fl : Int) (a0 a1 a2 a3 a4 a5 a6 a7 a8 a9 a10 a11 a12 a13 a14 a15 b0 b1 b2 b3 b4 b5 b6 b7 b8 b9 b10 b11 b12 b13 b14 b15 : UInt8) :
    (Instr.buildSlice 84 1 #[(0, .agg (tupL ⟨sv, [a0, a1, a2, a3, a4, a5, a6, a7, a8, a9, a10, a11, a12, a13, a14, a15], dv, [b0, b1, b2, b3, b4, b5, b6, b7, b8, b9, b10, b11, b12, b13, b14, b15], p, s, d⟩ ++ [Value.int .i64 b, .int .i64 g, .int .i64 fp, .int .i64 fs, .int .i64 fl]).toArray)]).run Try.prog w = .ok (.slice (some ⟨w.heap.size, 0, none⟩) 1 1) (w.alloc (.cells (tupL ⟨sv, [a0, a1, a2, a3, a4, a5, a6, a7, a8, a9, a10, a11, a12, a13, a14, a15], dv, [b0, b1, b2, b3, b4, b5, b6, b7, b8, b9, b10, b11, b12, b13, b14, b15], p, s, d⟩ ++ [Value.int .i64 b, .int .i64 g, .int .i64 fp, .int .i64 fs, .int .i64 fl]).toArray 66)) := by kernel_rfl
theorem bs_pin (w : World) (q : PinR) : (Instr.buildSlice 84 1 #[(0, .agg (pinA q))]).run Try.prog w = .ok (.slice (some ⟨w.heap.size, 0, none⟩) 1 1) (w.alloc (.cells (pinA q) 66)) := by
  obtain ⟨⟨⟨sv, sb, dv, db, p, s, d⟩, h1, h2⟩, b, g, fp, fs, fl⟩ := q
  obtain ⟨a0, a1, a2, a3, a4, a5, a6, a7, a8, a9, a10, a11, a12, a13, a14, a15, rfl⟩ := list16 sb h1
  obtain ⟨b0, b1, b2, b3, b4, b5, b6, b7, b8, b9, b10, b11, b12, b13, b14, b15, rfl⟩ := list16 db h2
  exact bs_pin16 w _ _ _ _ _ _ _ _ _ _ _ _ _ _ _ _ _ _ _ _ _ _ _ _ _ _ _ _ _ _ _ _ _ _ _ _ _ _ _ _ _ _
theorem wpList_moveV {P : Program} {w : World} {ops : Array Oper} {rest : List Oper} {o : Oper} {a : Act} {Q : Exit → Act → World → Prop} (hgd : o.guard = none) (x : Operand)
    (ho : o.op = .move x) (v : Value) (hx : a.eval x = v) (h : wpList P ops Q rest (a.put o.dst v) w) : wpList P ops Q (o :: rest) a w := by
  refine wpList_plain hgd fun K hK => ?_
  unfold Oper.wp execOp
  simp only [ho, Sem.run_bind, Sem.run_pure, hx, Result.andThen_ok]
  exact hK _ _ h
theorem wpList_bsV {P : Program} {w : World} {ops : Array Oper} {rest : List Oper} {o : Oper} {a : Act} {Q : Exit → Act → World → Prop} (hgd : o.guard = none) (t : TypeId) (n : Nat) (x : Operand)
    (ho : o.op = .buildSlice t n #[(0, x)]) (v : Value) (hx : a.eval x = v) {r : Value} {w' : World} (hr : (Instr.buildSlice t n #[(0, v)]).run P w = .ok r w') (h : wpList P ops Q rest (a.put o.dst r) w') : wpList P ops Q (o :: rest) a w := by
  refine wpList_plain hgd fun K hK => ?_
  unfold Oper.wp execOp
  simp only [ho, Sem.run_bind, Sem.run_pure, List.map_toArray, List.map_cons, List.map_nil, hx, hr, Result.andThen_ok]
  exact hK _ _ h
theorem anyone_any (w : World) (X : Array Value) : Calls Try.prog 55 #[.agg X] w (RetV w (.bool true)) := by
  have HB := hide (fun o => (Below.refl w.heap.size w).alloc (Nat.le_refl _) o)
  go_enter Try.func55, Try.ntmps55
  go_wp2
  go_ret
  exact ⟨rfl, HB.out _⟩
set_option maxHeartbeats 16000000 in
theorem answerA_any {w : World} {p bp bu : Nat} {most : Int} {l : List PinR} {u : List ((Int × Int) × Int)} (h : StoS w p bp bu most l u) (hlen : l.length ≤ 100000) (now : Int) :
    Calls Try.prog 54 #[.pointer (some ⟨p, 0, none⟩), .agg #[.int .i64 now, .func (.func 55) #[] #[]]] w fun e w' => ∃ A c, ∃ R : List PinR, e = .returned (.slice A R.length c) ∧ R.Perm (l.filter (fun q => liveB q.f now && true)) ∧ RowK 42 w' A (R.map pinA) ∧ Below w.heap.size w w' := by
  have HL := hide hlen
  have HPR := hide (fun (r : Nat) (W : World) {S : List PinR} {n : Nat} (hn : n = 0) (hp : ((pinE l).map (fun p => (encT p.1, p.2))).Perm ((pinE S).map (fun p => (encT p.1, p.2)))) => perm_pins w hp)
  have KQ : Hid (∀ W, Below w.heap.size w W → ∀ q : PinR, Calls Try.prog 55 #[.agg (pinA q)] W (RetV W (.bool (true)))) := hide fun W hb q => anyone_any W _
  have KL := hide (fun W (q : PinR) => liveF_any W q.f now)
  have hfo : allOne #[Value.int .i64 now, .func (.func 55) #[] #[]] = true := by simp [allOne, Value.oneCell']
  obtain ⟨W1, hW1, r_u, z1, b1⟩ := alloc_nm w (.cells #[.int .i64 now, .func (.func 55) #[] #[]] 105)
  have S1 := h.below b1
  have HM := hide S1.pins
  have HBP := hide S1.pins.lt
  have p1 : W1.cell? ⟨p, 1, none⟩ = some (.map (some bp)) := (cell_of_row _ p 1 _ _ (0, 0) S1.blk).trans rfl
  have HB1 := hide b1
  have HU := hide r_u
  have HQ : Hid (∀ W, Below W1.heap.size W1 W → W.cell? ⟨w.heap.size, 0, none⟩ = some (.int .i64 now) ∧ W.cell? ⟨w.heap.size, 1, none⟩ = some (.func (.func 55) #[] #[]) ∧ Below w.heap.size w W) := hide fun W hb => ⟨(cell_of_row W _ 0 _ _ (0, 0) (keepB hb r_u)).trans rfl, (cell_of_row W _ 1 _ _ (0, 0) (keepB hb r_u)).trans rfl, b1.trans (hb.mono b1.size)⟩
  have HS1 := hide b1.size
  clear h hlen S1 z1 b1 r_u
  go_enter Try.func54, Try.ntmps54
  go_wp2_with (at_range; refine wpList_rangeG _ rfl _ 92 63 66 rfl Try.underlying92 bp (pinE l) rfl HM.out ?_; intro w2 hI0 hb0 hs0)
  have HI0 := hide hI0
  have HB0 := hide hb0
  obtain ⟨r, hr⟩ : ∃ r, r = W1.heap.size := ⟨_, rfl⟩
  have HR : Hid (W1.heap.size ≤ r) := hide (by omega)
  rw [← hr] at HI0 ⊢
  clear hb0 hI0 hs0 hr
  go_frame
  go_loopw [5] (fun sv wr => ∃ (S R : List PinR) (n m : Nat), m = R.length ∧ Hid (IterG encT wr bp r (pinE l) (pinE S) n) ∧ Hid (R.Perm (S.filter (fun q => liveB q.f now && true))) ∧ Hid (wr.ownsRow (r + 1) 66 42 sv m (flatR (R.map pinA))) ∧ Hid (Below W1.heap.size W1 wr) ∧ Hid (m + n ≤ l.length)) (fun _ wr => wr.rangeLeft bp r)
  case atStart => exact ⟨[], [], _, 0, rfl, HI0, hide (List.Perm.refl _), hide (World.ownsRow_nil _ _ _ _), HB0, hide (by unfold pinE; simp)⟩
  case round =>
    obtain ⟨S, R, n, m, hm, hI, hP, hO, hbel, hmn⟩ := hrel
    have HLF := hide hI.out.left
    go_wp2_with (at_next; refine wpList_nextG _ (fun a b => keyLaw_inj keyT w a b) rfl _ rfl bp r (pinE l) (pinE S) n rfl hI.out ?_ ?_)
    · intro hn0 hperm
      have HP2 := hide (hP.out.trans ((HPR.out r w hn0 hperm).symm.filter _))
      have HO2 := hide hO.out
      have HMm := hide hm
      clear hperm hn0
      obtain ⟨A, c, rfl, hcc, hll, hrow⟩ := RowK.of_own (pin_sizes R) (by omega) hO.out
      have HROW := hide hrow
      clear hrow hcc hll hO hm
      go_wp2
      go_ret
      exact ⟨A, c, R, by rw [← HMm.out]; rfl, HP2.out, HROW.out, (HQ.out _ hbel.out).2.2⟩
    · intro k0 hk0 v w3 n' hkv hI3 hlt hg3 hs3 hen
      obtain ⟨k, hkk⟩ : ∃ k : TK, k = ⟨k0, hk0⟩ := ⟨_, rfl⟩
      rw [← hkk] at hkv hI3 hen ⊢
      clear hkk
      obtain ⟨q, hql, rfl, rfl⟩ := pin_mem hkv
      have HI3 := hide hI3
      have HB3 := hide (below_turnV hbel.out hg3 HR.out)
      have HO3 : Hid (w3.ownsRow (r + 1) 66 42 _ m (flatR (R.map pinA))) := hide (hO.out.kept hg3 (by
        have hO1 := hO.out.lt
        generalize Value.ownBlock _ = ob at hO1
        cases ob with
        | none => exact .inl rfl
        | some j => right; intro e; cases e; have := (hO1 r rfl).1; omega))
      have HQL := hide hql
      have HLT := hide hlt
      obtain ⟨W4, hW4, r_p, z4, b4⟩ := alloc_nm w3 (.cells (pinA q) 66)
      have HI4 := hide (HI3.out.below b4)
      have HO4 := hide (keepR HO3.out b4)
      have HB4 := hide (HB3.out.trans (b4.mono HB3.out.size))
      obtain ⟨q0, _, _⟩ := HQ.out W4 HB4.out
      have px := pin_x q
      have ps := pin_size q
      have po := pin_one q
      have pf := pin_flow q
      have zs := pin_size pinZ
      have KL2 := hide (fun W => KL.out W q)
      obtain ⟨lb, hlb⟩ : ∃ x, x = liveB q.f now := ⟨_, rfl⟩
      rw [← hlb] at KL2
      have HLB := hide hlb
      unfold encT at hen
      unfold flV at KL2
      clear hkv hI3 hlt hg3 hs3 hql z4 b4 hlb HI3 HO3 HB3 hI hO hbel
      cases lb
      · go_wp2_with fail
        go_at_call 18
        with_reducible refine (KL2.out _).mono ?_
        rintro e W5 ⟨rfl, b5⟩
        have HI5 := hide (HI4.out.below b5)
        have HO5 := hide (keepR HO4.out b5)
        have HB5 := hide (HB4.out.trans (b5.mono HB4.out.size))
        clear b5
        dsimp only
        go_wp2_with fail
        go_roundw
        case rel => exact ⟨q :: S, R, n', m, hm, HI5, hide (by rw [List.filter_cons_of_neg (by rw [← HLB.out]; simp)]; exact hP.out), HO5, HB5, hide (by have := hmn.out; have := HLT.out; omega)⟩
        case measure => rw [HI5.out.left, HLF.out]; exact HLT.out
      · go_wp2_with fail
        go_at_call 18
        with_reducible refine (KL2.out _).mono ?_
        rintro e W5 ⟨rfl, b5⟩
        have HI5 := hide (HI4.out.below b5)
        have HO5 := hide (keepR HO4.out b5)
        have HB5 := hide (HB4.out.trans (b5.mono HB4.out.size))
        obtain ⟨_, q1, qw⟩ := HQ.out W5 HB5.out
        have KQ2 := hide (KQ.out W5 qw q)
        obtain ⟨ib, hib⟩ : ∃ x, x = (true) := ⟨_, rfl⟩
        rw [← hib] at KQ2
        have HIB := hide hib
        replace r_p := keepB b5 r_p
        clear b5 q0 hib qw
        dsimp only
        cases ib
        · exact absurd HIB.out (by simp)
        · go_wp2_with fail
          go_at_call 55
          with_reducible refine KQ2.out.mono ?_
          rintro e W6 ⟨rfl, b6⟩
          have HI6 := hide (HI5.out.below b6)
          have HO6 := hide (keepR HO5.out b6)
          have HB6 := hide (HB5.out.trans (b6.mono HB5.out.size))
          replace r_p := keepB b6 r_p
          clear b6
          dsimp only
          obtain ⟨W7, hW7, r_b, z7, b7⟩ := alloc_nm W6 (.cells (pinA q) 66)
          have HI7 := hide (HI6.out.below b7)
          have HO7 := keepR HO6.out b7
          have HB7 := hide (HB6.out.trans (b7.mono HB6.out.size))
          obtain ⟨v', w8, hap, h2, h3, h4⟩ := app_pin W7 (r + 1) _ m R HO7 q _ r_b (by have := hmn.out; have := HL.out; omega) (by have := HI7.out.lt.1; omega) 84
          have HO8 := hide h2
          have hob := HO7.lt
          have HB8 : Hid (Below W1.heap.size W1 w8) := hide (HB7.out.grown h3 HB7.out.size (fun k hk => by have := (hob k hk).1; have := HR.out; omega))
          have HI8 : Hid (IterG encT w8 bp r (pinE l) (pinE (q :: S)) n') := hide (HI7.out.grown h3 (fun k hk => by have := (hob k hk).1; have := HR.out; have := HBP.out; omega))
          have hbs := bs_pin W6 q
          rw [hW7] at hbs
          have hsp : spanQ Try.prog 66 W6 (.pointer (some ⟨w3.heap.size, 0, none⟩)) = some (pinA q) := by rw [spanQ_ptr, r_p, rs_Pin, spanC_some, if_pos (by rw [ps]; omega), Nat.zero_add, px]
          clear h2 h3 h4 hob z7 b7 HO7 r_b
          go_upto_region 8 with (fail)
          refine wp_region_lit ?_
          refine wpList_moveV rfl _ rfl _ rfl ?_
          refine wpList_spanV rfl _ _ rfl _ rfl hsp ?_
          refine wpList_bsV rfl _ _ _ rfl _ rfl hbs ?_
          refine wpList_append_eq rfl _ _ 84 84 rfl _ _ rfl rfl hap ?_
          go_frame
          go_wp2_with fail
          go_roundw
          case rel => exact ⟨q :: S, R ++ [q], n', m + 1, by rw [List.length_append, ← hm]; rfl, HI8, hide (by
            rw [List.filter_cons_of_pos (by first | (rw [← HLB.out, ← HIB.out]; rfl) | (rw [← HLB.out]; rfl))]
            exact List.perm_append_comm.trans (hP.out.cons q)), HO8, HB8, hide (by have := hmn.out; have := HLT.out; omega)⟩
          case measure => rw [HI8.out.left, HLF.out]; exact HLT.out
theorem count1_any (w : World) (q : PinR) (pb pg : Nat) (b g : Int) (hb : w.cell? ⟨pb, 0, none⟩ = some (.int .i64 b)) (hg : w.cell? ⟨pg, 0, none⟩ = some (.int .i64 g)) (hlb : pb < w.heap.size) (hlg : pg < w.heap.size) :
    Calls Try.prog 56 #[.agg (pinA q), .pointer (some ⟨pb, 0, none⟩), .pointer (some ⟨pg, 0, none⟩)] w (RetV w (.bool (q.b == b && q.g == g))) := by
  obtain ⟨W1, hW1, r_q, z1, b1⟩ := alloc_nm w (.cells (pinA q) 66)
  obtain ⟨y1, y2⟩ := pin_at q
  have k1 : W1.cell? ⟨w.heap.size, 37, none⟩ = some (.int .i64 q.b) := (cell_of_row W1 _ 37 _ _ (0, 0) r_q).trans y1
  have k2 : W1.cell? ⟨w.heap.size, 38, none⟩ = some (.int .i64 q.g) := (cell_of_row W1 _ 38 _ _ (0, 0) r_q).trans y2
  have c1 : W1.cell? ⟨pb, 0, none⟩ = some (.int .i64 b) := (b1.cell (p := ⟨pb, 0, none⟩) hlb).trans hb
  have c2 : W1.cell? ⟨pg, 0, none⟩ = some (.int .i64 g) := (b1.cell (p := ⟨pg, 0, none⟩) hlg).trans hg
  have HB := hide b1
  obtain ⟨e1, he1⟩ : ∃ x, x = (q.b == b) := ⟨_, rfl⟩
  obtain ⟨e2, he2⟩ : ∃ x, x = (q.g == g) := ⟨_, rfl⟩
  have g1 := he1.symm
  have g2 := he2.symm
  rw [← he1, ← he2]
  clear he1 he2 b1 y1 y2 z1 r_q hb hg hlb hlg
  go_enter Try.func56, Try.ntmps56
  cases e1
  · go_wp2
    go_ret
    exact ⟨rfl, HB.out⟩
  · go_wp2
    go_ret
    exact ⟨rfl, HB.out⟩
set_option maxHeartbeats 16000000 in
theorem answerC_any {w : World} {p bp bu : Nat} {most : Int} {l : List PinR} {u : List ((Int × Int) × Int)} (h : StoS w p bp bu most l u) (hlen : l.length ≤ 100000) (now : Int) (pb pg : Nat) (b g : Int) (hcb : w.cell? ⟨pb, 0, none⟩ = some (.int .i64 b)) (hcg : w.cell? ⟨pg, 0, none⟩ = some (.int .i64 g)) (hlb : pb < w.heap.size) (hlg : pg < w.heap.size) :
    Calls Try.prog 54 #[.pointer (some ⟨p, 0, none⟩), .agg #[.int .i64 now, .func (.func 56) #[] #[.pointer (some ⟨pb, 0, none⟩), .pointer (some ⟨pg, 0, none⟩)]]] w fun e w' => ∃ A c, ∃ R : List PinR, e = .returned (.slice A R.length c) ∧ R.Perm (l.filter (fun q => liveB q.f now && (q.b == b && q.g == g))) ∧ RowK 42 w' A (R.map pinA) ∧ Below w.heap.size w w' := by
  have HL := hide hlen
  have HPR := hide (fun (r : Nat) (W : World) {S : List PinR} {n : Nat} (hn : n = 0) (hp : ((pinE l).map (fun p => (encT p.1, p.2))).Perm ((pinE S).map (fun p => (encT p.1, p.2)))) => perm_pins w hp)
  have KQ : Hid (∀ W, Below w.heap.size w W → ∀ q : PinR, Calls Try.prog 56 #[.agg (pinA q), .pointer (some ⟨pb, 0, none⟩), .pointer (some ⟨pg, 0, none⟩)] W (RetV W (.bool ((q.b == b && q.g == g))))) := hide fun W hb q => count1_any W q pb pg b g ((hb.cell (p := ⟨pb, 0, none⟩) hlb).trans hcb) ((hb.cell (p := ⟨pg, 0, none⟩) hlg).trans hcg) (Nat.lt_of_lt_of_le hlb hb.size) (Nat.lt_of_lt_of_le hlg hb.size)
  have KL := hide (fun W (q : PinR) => liveF_any W q.f now)
  have hfo : allOne #[Value.int .i64 now, .func (.func 56) #[] #[.pointer (some ⟨pb, 0, none⟩), .pointer (some ⟨pg, 0, none⟩)]] = true := by simp [allOne, Value.oneCell']
  obtain ⟨W1, hW1, r_u, z1, b1⟩ := alloc_nm w (.cells #[.int .i64 now, .func (.func 56) #[] #[.pointer (some ⟨pb, 0, none⟩), .pointer (some ⟨pg, 0, none⟩)]] 105)
  have S1 := h.below b1
  have HM := hide S1.pins
  have HBP := hide S1.pins.lt
  have p1 : W1.cell? ⟨p, 1, none⟩ = some (.map (some bp)) := (cell_of_row _ p 1 _ _ (0, 0) S1.blk).trans rfl
  have HB1 := hide b1
  have HU := hide r_u
  have HQ : Hid (∀ W, Below W1.heap.size W1 W → W.cell? ⟨w.heap.size, 0, none⟩ = some (.int .i64 now) ∧ W.cell? ⟨w.heap.size, 1, none⟩ = some (.func (.func 56) #[] #[.pointer (some ⟨pb, 0, none⟩), .pointer (some ⟨pg, 0, none⟩)]) ∧ Below w.heap.size w W) := hide fun W hb => ⟨(cell_of_row W _ 0 _ _ (0, 0) (keepB hb r_u)).trans rfl, (cell_of_row W _ 1 _ _ (0, 0) (keepB hb r_u)).trans rfl, b1.trans (hb.mono b1.size)⟩
  have HS1 := hide b1.size
  clear h hlen S1 z1 b1 r_u
  clear hcb hcg hlb hlg
  go_enter Try.func54, Try.ntmps54
  go_wp2_with (at_range; refine wpList_rangeG _ rfl _ 92 63 66 rfl Try.underlying92 bp (pinE l) rfl HM.out ?_; intro w2 hI0 hb0 hs0)
  have HI0 := hide hI0
  have HB0 := hide hb0
  obtain ⟨r, hr⟩ : ∃ r, r = W1.heap.size := ⟨_, rfl⟩
  have HR : Hid (W1.heap.size ≤ r) := hide (by omega)
  rw [← hr] at HI0 ⊢
  clear hb0 hI0 hs0 hr
  go_frame
  go_loopw [5] (fun sv wr => ∃ (S R : List PinR) (n m : Nat), m = R.length ∧ Hid (IterG encT wr bp r (pinE l) (pinE S) n) ∧ Hid (R.Perm (S.filter (fun q => liveB q.f now && (q.b == b && q.g == g)))) ∧ Hid (wr.ownsRow (r + 1) 66 42 sv m (flatR (R.map pinA))) ∧ Hid (Below W1.heap.size W1 wr) ∧ Hid (m + n ≤ l.length)) (fun _ wr => wr.rangeLeft bp r)
  case atStart => exact ⟨[], [], _, 0, rfl, HI0, hide (List.Perm.refl _), hide (World.ownsRow_nil _ _ _ _), HB0, hide (by unfold pinE; simp)⟩
  case round =>
    obtain ⟨S, R, n, m, hm, hI, hP, hO, hbel, hmn⟩ := hrel
    have HLF := hide hI.out.left
    go_wp2_with (at_next; refine wpList_nextG _ (fun a b => keyLaw_inj keyT w a b) rfl _ rfl bp r (pinE l) (pinE S) n rfl hI.out ?_ ?_)
    · intro hn0 hperm
      have HP2 := hide (hP.out.trans ((HPR.out r w hn0 hperm).symm.filter _))
      have HO2 := hide hO.out
      have HMm := hide hm
      clear hperm hn0
      obtain ⟨A, c, rfl, hcc, hll, hrow⟩ := RowK.of_own (pin_sizes R) (by omega) hO.out
      have HROW := hide hrow
      clear hrow hcc hll hO hm
      go_wp2
      go_ret
      exact ⟨A, c, R, by rw [← HMm.out]; rfl, HP2.out, HROW.out, (HQ.out _ hbel.out).2.2⟩
    · intro k0 hk0 v w3 n' hkv hI3 hlt hg3 hs3 hen
      obtain ⟨k, hkk⟩ : ∃ k : TK, k = ⟨k0, hk0⟩ := ⟨_, rfl⟩
      rw [← hkk] at hkv hI3 hen ⊢
      clear hkk
      obtain ⟨q, hql, rfl, rfl⟩ := pin_mem hkv
      have HI3 := hide hI3
      have HB3 := hide (below_turnV hbel.out hg3 HR.out)
      have HO3 : Hid (w3.ownsRow (r + 1) 66 42 _ m (flatR (R.map pinA))) := hide (hO.out.kept hg3 (by
        have hO1 := hO.out.lt
        generalize Value.ownBlock _ = ob at hO1
        cases ob with
        | none => exact .inl rfl
        | some j => right; intro e; cases e; have := (hO1 r rfl).1; omega))
      have HQL := hide hql
      have HLT := hide hlt
      obtain ⟨W4, hW4, r_p, z4, b4⟩ := alloc_nm w3 (.cells (pinA q) 66)
      have HI4 := hide (HI3.out.below b4)
      have HO4 := hide (keepR HO3.out b4)
      have HB4 := hide (HB3.out.trans (b4.mono HB3.out.size))
      obtain ⟨q0, _, _⟩ := HQ.out W4 HB4.out
      have px := pin_x q
      have ps := pin_size q
      have po := pin_one q
      have pf := pin_flow q
      have zs := pin_size pinZ
      have KL2 := hide (fun W => KL.out W q)
      obtain ⟨lb, hlb⟩ : ∃ x, x = liveB q.f now := ⟨_, rfl⟩
      rw [← hlb] at KL2
      have HLB := hide hlb
      unfold encT at hen
      unfold flV at KL2
      clear hkv hI3 hlt hg3 hs3 hql z4 b4 hlb HI3 HO3 HB3 hI hO hbel
      cases lb
      · go_wp2_with fail
        go_at_call 18
        with_reducible refine (KL2.out _).mono ?_
        rintro e W5 ⟨rfl, b5⟩
        have HI5 := hide (HI4.out.below b5)
        have HO5 := hide (keepR HO4.out b5)
        have HB5 := hide (HB4.out.trans (b5.mono HB4.out.size))
        clear b5
        dsimp only
        go_wp2_with fail
        go_roundw
        case rel => exact ⟨q :: S, R, n', m, hm, HI5, hide (by rw [List.filter_cons_of_neg (by rw [← HLB.out]; simp)]; exact hP.out), HO5, HB5, hide (by have := hmn.out; have := HLT.out; omega)⟩
        case measure => rw [HI5.out.left, HLF.out]; exact HLT.out
      · go_wp2_with fail
        go_at_call 18
        with_reducible refine (KL2.out _).mono ?_
        rintro e W5 ⟨rfl, b5⟩
        have HI5 := hide (HI4.out.below b5)
        have HO5 := hide (keepR HO4.out b5)
        have HB5 := hide (HB4.out.trans (b5.mono HB4.out.size))
        obtain ⟨_, q1, qw⟩ := HQ.out W5 HB5.out
        have KQ2 := hide (KQ.out W5 qw q)
        obtain ⟨ib, hib⟩ : ∃ x, x = ((q.b == b && q.g == g)) := ⟨_, rfl⟩
        rw [← hib] at KQ2
        have HIB := hide hib
        replace r_p := keepB b5 r_p
        clear b5 q0 hib qw
        dsimp only
        cases ib
        · go_wp2_with fail
          go_at_call 56
          with_reducible refine KQ2.out.mono ?_
          rintro e W6 ⟨rfl, b6⟩
          have HI6 := hide (HI5.out.below b6)
          have HO6 := hide (keepR HO5.out b6)
          have HB6 := hide (HB5.out.trans (b6.mono HB5.out.size))
          clear b6
          dsimp only
          go_wp2_with fail
          go_roundw
          case rel => exact ⟨q :: S, R, n', m, hm, HI6, hide (by rw [List.filter_cons_of_neg (by rw [← HLB.out, ← HIB.out]; simp)]; exact hP.out), HO6, HB6, hide (by have := hmn.out; have := HLT.out; omega)⟩
          case measure => rw [HI6.out.left, HLF.out]; exact HLT.out
        · go_wp2_with fail
          go_at_call 56
          with_reducible refine KQ2.out.mono ?_
          rintro e W6 ⟨rfl, b6⟩
          have HI6 := hide (HI5.out.below b6)
          have HO6 := hide (keepR HO5.out b6)
          have HB6 := hide (HB5.out.trans (b6.mono HB5.out.size))
          replace r_p := keepB b6 r_p
          clear b6
          dsimp only
          obtain ⟨W7, hW7, r_b, z7, b7⟩ := alloc_nm W6 (.cells (pinA q) 66)
          have HI7 := hide (HI6.out.below b7)
          have HO7 := keepR HO6.out b7
          have HB7 := hide (HB6.out.trans (b7.mono HB6.out.size))
          obtain ⟨v', w8, hap, h2, h3, h4⟩ := app_pin W7 (r + 1) _ m R HO7 q _ r_b (by have := hmn.out; have := HL.out; omega) (by have := HI7.out.lt.1; omega) 84
          have HO8 := hide h2
          have hob := HO7.lt
          have HB8 : Hid (Below W1.heap.size W1 w8) := hide (HB7.out.grown h3 HB7.out.size (fun k hk => by have := (hob k hk).1; have := HR.out; omega))
          have HI8 : Hid (IterG encT w8 bp r (pinE l) (pinE (q :: S)) n') := hide (HI7.out.grown h3 (fun k hk => by have := (hob k hk).1; have := HR.out; have := HBP.out; omega))
          have hbs := bs_pin W6 q
          rw [hW7] at hbs
          have hsp : spanQ Try.prog 66 W6 (.pointer (some ⟨w3.heap.size, 0, none⟩)) = some (pinA q) := by rw [spanQ_ptr, r_p, rs_Pin, spanC_some, if_pos (by rw [ps]; omega), Nat.zero_add, px]
          clear h2 h3 h4 hob z7 b7 HO7 r_b
          go_upto_region 8 with (fail)
          refine wp_region_lit ?_
          refine wpList_moveV rfl _ rfl _ rfl ?_
          refine wpList_spanV rfl _ _ rfl _ rfl hsp ?_
          refine wpList_bsV rfl _ _ _ rfl _ rfl hbs ?_
          refine wpList_append_eq rfl _ _ 84 84 rfl _ _ rfl rfl hap ?_
          go_frame
          go_wp2_with fail
          go_roundw
          case rel => exact ⟨q :: S, R ++ [q], n', m + 1, by rw [List.length_append, ← hm]; rfl, HI8, hide (by
            rw [List.filter_cons_of_pos (by first | (rw [← HLB.out, ← HIB.out]; rfl) | (rw [← HLB.out]; rfl))]
            exact List.perm_append_comm.trans (hP.out.cons q)), HO8, HB8, hide (by have := hmn.out; have := HLT.out; omega)⟩
          case measure => rw [HI8.out.left, HLF.out]; exact HLT.out
end Go.Proofs.Ytbkipfmnbfjkcaa
