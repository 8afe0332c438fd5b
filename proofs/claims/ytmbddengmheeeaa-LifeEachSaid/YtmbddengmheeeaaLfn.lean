/-
  What is known of two together: Join.
-/
import Derived.Test.YtmbddengmheeeaaLfm
namespace Go.Proofs.Ytmbddengmheeeaa
open Go.RowKit
set_option maxRecDepth 100000
set_option linter.unusedVariables false
set_option linter.unusedSimpArgs false
attribute [local go_sem ↓] exec_span exec_put exec_build heap_alloc_new heap_old
attribute [local go_sem] spanQ_ptr spanC_some heap_of_drew heap_of_drewN rs_ad rs_spec rs_rec putAt_ptr putOk_ptr oldOk_some store_fl

theorem run_maxI {P : Program} (ats : Array TypeId) (t : TypeId) (x y : Int) (w : World) : (Builtin.max_ ats t #[.int .i64 x, .int .i64 y]).run P w = .ok (.int .i64 (max x y)) w := by
  rcases Int.lt_trichotomy x y with h | h | h
  · have h2 : ¬ y < x := by omega
    simp [Builtin.max_, Builtin.max2, h, h2]; omega
  · subst h
    simp [Builtin.max_, Builtin.max2]
  · have h2 : ¬ x < y := by omega
    simp [Builtin.max_, Builtin.max2, h, h2]; omega
theorem built_recA (g l s y d : Int) (v : Bool) (wt n c : Nat) (A : Option Addr) (b0 b1 b2 b3 b4 b5 b6 b7 b8 b9 b10 b11 b12 b13 b14 b15 : UInt8) :
    Try.prog.built 34 [(0, .int .i64 g), (1, .int .i64 l), (2, .agg (spL ⟨s, y, v, [b0, b1, b2, b3, b4, b5, b6, b7, b8, b9, b10, b11, b12, b13, b14, b15], wt⟩).toArray), (3, .slice A n c), (4, .int .i64 d)] = some (rcL ⟨g, l, ⟨s, y, v, [b0, b1, b2, b3, b4, b5, b6, b7, b8, b9, b10, b11, b12, b13, b14, b15], wt⟩, A, n, c, d⟩).toArray := by kernel_rfl
theorem built_recT (r : Rcd) (h : r.sp.ab.length = 16) : Try.prog.built 34 [(0, .int .i64 r.g), (1, .int .i64 r.l), (2, .agg (spL r.sp).toArray), (3, .slice r.va r.vn r.vc), (4, .int .i64 r.dn)] = some (rcL r).toArray := by
  obtain ⟨g, l, ⟨s, y, v, ab, wt⟩, A, n, c, d⟩ := r
  match ab, h with
  | [_, _, _, _, _, _, _, _, _, _, _, _, _, _, _, _], _ => exact built_recA _ _ _ _ _ _ _ _ _ _ _ _ _ _ _ _ _ _ _ _ _ _ _ _ _ _
def joinSp (s t : Spc) : Spc := if spAhead s t = true then t else s
theorem joinSp_val (s t : Spc) : (if spAhead s t = true then (spL t).toArray else (spL s).toArray) = (spL (joinSp s t)).toArray := by unfold joinSp; split <;> rfl
def orI (a b : Int) : Int := bits BinOp.or IntKind.i64 a b
def joinKn (a b : Kn) : Kn := ⟨a.g, max a.l b.l, joinSp a.sp b.sp, joinVo a.vs b.vs, orI a.dn b.dn⟩
def joinK (a b : Kn) : Kn := if okK a = true ∧ okK b = true then (if a.g = b.g then joinKn a b else newK a b) else zKn
def joinE (a b : Kn) : Int := if okK a = true ∧ okK b = true then 0 else 1
theorem okK_len {k : Kn} (h : okK k = true) : k.vs.length ≤ 16 := by
  unfold okK at h
  split at h
  · unfold sameK at h
    simp only [Bool.and_eq_true, decide_eq_true_eq] at h
    rw [h.2.2.2.1]
    simp [zKn]
  · unfold okR votesOk at h
    simp only [Bool.and_eq_true, decide_eq_true_eq] at h
    exact h.2.2.2.2.2.1.1.1
theorem RecP.zero {w w' : World} (hb : Below w.heap.size w w') : RecP w zKn (rcL zRcd).toArray w' :=
  ⟨none, 0, (zKn_ok w').more (Nat.zero_le _), ⟨by simp [voC, zKn], .inl ⟨rfl, rfl⟩⟩, hb⟩
theorem RecP.store {w0 w w' : World} {k : Kn} {X : Array Value} (h : RecP w k X w') (hb : Below w0.heap.size w0 w) {g : Nat} (hg : w0.heap.size ≤ g) (hg2 : g < w.heap.size) (cs : Array Value) : RecP w0 k X (w'.setRow g cs) := by
  obtain ⟨va, vc, hk, ho, hb'⟩ := h
  have ho4 := ownV_kept ho (grown_row w' g cs) hg2
  obtain ⟨A', c', e, h1, h2, h3⟩ := row_votes ho4
  cases e
  exact ⟨va, vc, ⟨hk.rc, h2, hk.sz, h3, h1⟩, ownV_less ho4 hb.size, below_setRow (hb.trans (hb'.mono hb.size)) hg _⟩
def JoinP (w : World) (k : Kn) (E : Int) (e : Ending) (w' : World) : Prop := ∃ X', e = .returned (.tuple #[.agg X', .int .i64 E]) ∧ RecP w k X' w'
set_option maxHeartbeats 8000000 in
theorem joinK_any (w : World) (B : Nat) (X Y : Array Value) (a b : Kn) (va vb : Option Addr) (ca cb : Nat) (h : KnV w B X a va ca) (h' : KnV w B Y b vb cb) (hB : B ≤ w.heap.size) :
    Calls Try.prog 13 #[.agg X, .agg Y] w (JoinP w (joinK a b) (joinE a b)) := by
  obtain ⟨W, hW, r1, r2, r3, hz, hb⟩ := three_new w X Y (rcL zRcd).toArray 34
  have hBW : B ≤ W.heap.size := by omega
  have KA := hide (fun W1 (bl : Below W.heap.size W W1) => rightK_any W1 B X a va ca ((h.below hb hB).below bl hBW) (Nat.le_trans hBW bl.size))
  have KB := hide (fun W1 (bl : Below W.heap.size W W1) => rightK_any W1 B Y b vb cb ((h'.below hb hB).below bl hBW) (Nat.le_trans hBW bl.size))
  have hn0 : okK a = false → joinK a b = zKn ∧ joinE a b = 1 := fun e => by unfold joinK joinE; simp [e]
  have hn1 : okK b = false → joinK a b = zKn ∧ joinE a b = 1 := fun e => by unfold joinK joinE; simp [e]
  have hy : okK a = true → okK b = true → joinK a b = (if a.g = b.g then joinKn a b else newK a b) ∧ joinE a b = 0 := fun e e' => by unfold joinK joinE; simp [e, e']
  have hlen := fun (e : okK a = true) => okK_len e
  have hlen' := fun (e : okK b = true) => okK_len e
  generalize joinK a b = J at hn0 hn1 hy ⊢
  generalize joinE a b = E at hn0 hn1 hy ⊢
  generalize okK a = oa at KA hn0 hy hlen
  generalize okK b = ob at KB hn1 hy hlen'
  have hxs := h.rc.size
  have hxx := h.rc.x0
  have hys := h'.rc.size
  have hyx := h'.rc.x0
  have hzs : (rcL zRcd).toArray.size = 24 := by simp [rcL, spL, adL, zRcd, zSp]
  have hzo : allOne (rcL zRcd).toArray = true := ((zKn_ok w).rc).one
  have hbu := built_rec0
  have HC := hide (fun (W1 : World) (bl : Below W.heap.size W W1) => (⟨(BW.mk W1 bl).block r1, (BW.mk W1 bl).block r2, (BW.mk W1 bl).block r3⟩ : _ ∧ _ ∧ _))
  have HW := hide hW
  have HZ := hide hz
  have HB := hide hb
  have HN0 := hide hn0
  have HN1 := hide hn1
  have HY := hide hy
  have H := hide h
  have H' := hide h'
  have HBW := hide hBW
  have hzero : Hid (∀ W1, RecP w zKn (rcL zRcd).toArray W1 ∨ ¬ Below w.heap.size w W1) := hide fun W1 => by
    by_cases hb : Below w.heap.size w W1
    · exact .inl (RecP.zero hb)
    · exact .inr hb
  clear hW hz hb hn0 hn1 hy h h' hBW
  go_enter Try.func13, Try.ntmps13
  go_upto_region 1 with (fail)
  change Code.wp _ _ _ _ (((w.alloc (.cells X 34)).alloc (.cells Y 34)).alloc (.cells (rcL zRcd).toArray 34))
  rw [HW.out]
  generalize hZZ : (rcL zRcd).toArray = Z at *
  have HZZ := hide hZZ
  clear hZZ
  go_wp2_with fail
  refine (KA.out W (Below.refl _ _)).mono ?_
  rintro e w1 ⟨rfl, bb1⟩
  dsimp only
  obtain ⟨r1, r2, r3⟩ := HC.out w1 bb1
  have B1 := hide (HB.out.trans (bb1.mono (show w.heap.size ≤ W.heap.size by have := HZ.out; omega)))
  have S1 := hide bb1.size
  have BB1 := hide bb1
  clear bb1
  cases oa
  · obtain ⟨hj, he⟩ := HN0.out rfl
    have HJ := hide hj
    have HE := hide he
    clear hj he
    go_wp2
    refine bodyPost_ret (results_cell_tmp (fn := Try.f13) Try.results13 _ _ (w.heap.size + 1 + 1) 34 Z (0, 0) _ rfl (setRow_heap w1 _ _ _ _ _ r3) Try.underlying34 rfl (by rw [hzs]; exact info_rec)) rfl ?_
    rw [HJ.out, HE.out]
    exact ⟨Z, rfl, (hzero.out _).resolve_right (fun hh => hh (below_setRow B1.out (by omega) _))⟩
  go_wp2_with fail
  refine (KB.out w1 BB1.out).mono ?_
  rintro e w2 ⟨rfl, bb2⟩
  dsimp only
  have bb3 := BB1.out.trans (bb2.mono S1.out)
  obtain ⟨r1, r2, r3⟩ := HC.out w2 bb3
  have B2 := hide (HB.out.trans (bb3.mono (show w.heap.size ≤ W.heap.size by have := HZ.out; omega)))
  have BB2 := hide bb3
  clear bb2 bb3
  cases ob
  · obtain ⟨hj, he⟩ := HN1.out rfl
    have HJ := hide hj
    have HE := hide he
    clear hj he
    go_wp2
    refine bodyPost_ret (results_cell_tmp (fn := Try.f13) Try.results13 _ _ (w.heap.size + 1 + 1) 34 Z (0, 0) _ rfl (setRow_heap w2 _ _ _ _ _ r3) Try.underlying34 rfl (by rw [hzs]; exact info_rec)) rfl ?_
    rw [HJ.out, HE.out]
    exact ⟨Z, rfl, (hzero.out _).resolve_right (fun hh => hh (below_setRow B2.out (by omega) _))⟩
  obtain ⟨hj, he⟩ := HY.out (by trivial) (by trivial)
  have HJ := hide hj
  have HE := hide he
  have l1 := hlen (by trivial)
  have l2 := hlen' (by trivial)
  have hBw : B ≤ w2.heap.size := Nat.le_trans HBW.out BB2.out.size
  have hbel := B2.out.trans (Below.refl _ _)
  have G1 := H.out.below B2.out hB
  have G2 := H'.out.below B2.out hB
  have KN := hide (newK_any w2 B X Y a b va vb ca cb G1 G2 hBw l1 l2)
  have KP := hide (fun W1 => (by
    have := notAheadS_any W1 (spL a.sp).toArray (spL b.sp).toArray a.sp b.sp G1.rc.sp G2.rc.sp
    rw [joinSp_val] at this
    exact this : Calls Try.prog 47 #[.agg (spL a.sp).toArray, .agg (spL b.sp).toArray, .func (.func 48) #[.agg (spL a.sp).toArray] #[]] W1 (ValP W1 (.agg (spL (joinSp a.sp b.sp)).toArray))))
  have KJ := hide (fun W1 (bl : Below w2.heap.size w2 W1) => joinVotes_any W1 B va vb ca cb a.vs b.vs (G1.vo.below bl hBw) (G2.vo.below bl hBw) (Nat.le_trans hBw bl.size) l1 l2)
  obtain ⟨a0, a1, a22, a23⟩ := G1.rc.cells r1
  obtain ⟨b0, b1, b22, b23⟩ := G2.rc.cells r2
  have hxe := G1.rc.spec
  have hye := G2.rc.spec
  have la := G1.rc.la
  have lb := G2.rc.la
  have hwf := G1.rc.wf
  have hwf2 := G2.rc.wf
  simp only [Kn.rc] at a0 a1 a22 a23 b0 b1 b22 b23 hxe hye la lb hwf hwf2
  have S2 : Hid (w.heap.size + 3 ≤ w2.heap.size) := hide (by have := HZ.out; have := BB2.out.size; omega)
  clear hj he hlen hlen' KA KB HN0 HN1 HY hzero G1 G2 hbel hBw
  obtain ⟨ag, hag⟩ : ∃ x, x = a.g := ⟨_, rfl⟩
  obtain ⟨bg, hbg⟩ : ∃ x, x = b.g := ⟨_, rfl⟩
  rw [← hag] at a0
  rw [← hbg] at b0
  have HAG := hide hag
  have HBG := hide hbg
  clear hag hbg
  by_cases c1 : ag = bg
  · subst c1
    have hJ : Hid (J = joinKn a b) := hide (by rw [HJ.out, ← HAG.out, ← HBG.out, if_pos rfl])
    have hne : (ag != ag) = false := by simp
    obtain ⟨al, hal⟩ : ∃ x, x = a.l := ⟨_, rfl⟩
    obtain ⟨bl, hbl⟩ : ∃ x, x = b.l := ⟨_, rfl⟩
    obtain ⟨ad, had⟩ : ∃ x, x = a.dn := ⟨_, rfl⟩
    obtain ⟨bd, hbd⟩ : ∃ x, x = b.dn := ⟨_, rfl⟩
    obtain ⟨an, han⟩ : ∃ x, x = a.vs.length := ⟨_, rfl⟩
    obtain ⟨bn, hbn⟩ : ∃ x, x = b.vs.length := ⟨_, rfl⟩
    obtain ⟨L, hL⟩ : ∃ x, x = joinVo a.vs b.vs := ⟨_, rfl⟩
    obtain ⟨m, hm⟩ : ∃ x, x = max al bl := ⟨_, rfl⟩
    obtain ⟨d, hd⟩ : ∃ x, bits BinOp.or IntKind.i64 ad bd = x := ⟨_, rfl⟩
    have hmax := fun W => (run_maxI (P := Try.prog) #[3, 3] 3 al bl W).trans (by rw [← hm])
    have hmf : ∀ (fn : Fn) (first cap : Array Value) (w : World), (Instr.makeFunc fn first cap).run Try.prog w = .ok (.func fn first cap) w := fun _ _ _ _ => rfl
    have hbu2 : ∀ A c, Try.prog.built 34 [(0, .int .i64 ag), (1, .int .i64 m), (2, .agg (spL (joinSp a.sp b.sp)).toArray), (3, .slice A L.length c), (4, .int .i64 d)] = some (rcL ((joinKn a b).rc A c)).toArray := fun A c => by
      have e : (joinKn a b).rc A c = ⟨ag, m, joinSp a.sp b.sp, A, L.length, c, d⟩ := by
        unfold joinKn Kn.rc orI
        rw [← HAG.out, hm, hal, hbl, hL, ← hd, had, hbd]
      rw [e]
      exact built_recT ⟨ag, m, joinSp a.sp b.sp, A, L.length, c, d⟩ (by unfold joinSp; split <;> assumption)
    have hla : (joinSp a.sp b.sp).ab.length = 16 := by unfold joinSp; split <;> assumption
    have hlw : (joinSp a.sp b.sp).wt < 2 ^ 64 := by unfold joinSp; split <;> assumption
    have hrc : ∀ A c, RcV (rcL ((joinKn a b).rc A c)).toArray ((joinKn a b).rc A c) := fun A c => ⟨rfl, hla, hlw⟩
    obtain ⟨RJ, hrj⟩ : ∃ RJ : Option Addr → Nat → Array Value, RJ = fun A c => (rcL ((joinKn a b).rc A c)).toArray := ⟨_, rfl⟩
    have hbu3 : ∀ A c, Try.prog.built 34 [(0, .int .i64 ag), (1, .int .i64 m), (2, .agg (spL (joinSp a.sp b.sp)).toArray), (3, .slice A L.length c), (4, .int .i64 d)] = some (RJ A c) := fun A c => by rw [hrj]; exact hbu2 A c
    have hrc3 : ∀ A c, RcV (RJ A c) ((joinKn a b).rc A c) := fun A c => by rw [hrj]; exact hrc A c
    have rjs : ∀ A c, (RJ A c).size = 24 := fun A c => (hrc3 A c).size
    have rjo : ∀ A c, allOne (RJ A c) = true := fun A c => (hrc3 A c).one
    clear hrj hbu2 hrc
    have hll : L.length ≤ 16 := by rw [hL, joinVo_len]; omega
    generalize (spL (joinSp a.sp b.sp)).toArray = XJ at hbu3 KP
    generalize (spL a.sp).toArray = XS at KP hxe
    generalize (spL b.sp).toArray = YS at KP hye
    rw [← hal] at a1
    rw [← hbl] at b1
    rw [← had] at a23
    rw [← hbd] at b23
    rw [← han] at a22 KJ
    rw [← hbn] at b22 KJ
    rw [← hL] at KJ
    have HRC := hide hrc3
    have HLL := hide hll
    have HL := hide hL
    have hC : Hid (∀ W1, Below w2.heap.size w2 W1 → (W1.heap[w.heap.size]? = some (.cells X 34 (0, 0)) ∧ W1.heap[w.heap.size + 1]? = some (.cells Y 34 (0, 0)) ∧ W1.cell? ⟨w.heap.size, 0, none⟩ = some (.int .i64 ag) ∧ W1.cell? ⟨w.heap.size, 1, none⟩ = some (.int .i64 al) ∧ W1.cell? ⟨w.heap.size, 22, none⟩ = some (.slice va an ca) ∧ W1.cell? ⟨w.heap.size, 23, none⟩ = some (.int .i64 ad) ∧ W1.cell? ⟨w.heap.size + 1, 1, none⟩ = some (.int .i64 bl) ∧ W1.cell? ⟨w.heap.size + 1, 22, none⟩ = some (.slice vb bn cb) ∧ W1.cell? ⟨w.heap.size + 1, 23, none⟩ = some (.int .i64 bd)) ∧ W1.heap[w.heap.size + 1 + 1]? = some (.cells Z 34 (0, 0))) := hide fun W1 b => by
      have q := BW.mk W1 b
      exact ⟨⟨(BW.mk W1 b).block r1, (BW.mk W1 b).block r2, (BW.mk W1 b).cell a0, (BW.mk W1 b).cell a1, (BW.mk W1 b).cell a22, (BW.mk W1 b).cell a23, (BW.mk W1 b).cell b1, (BW.mk W1 b).cell b22, (BW.mk W1 b).cell b23⟩, (BW.mk W1 b).block r3⟩
    clear hm hal hbl had hbd han hbn hL hrc3 hla hlw hll la lb hwf hwf2 l1 l2 KN
    have HSt : Hid (∀ (W1 : World) (cs : Array Value), (W1.heap[w.heap.size]? = some (.cells X 34 (0, 0)) ∧ W1.heap[w.heap.size + 1]? = some (.cells Y 34 (0, 0)) ∧ W1.cell? ⟨w.heap.size, 0, none⟩ = some (.int .i64 ag) ∧ W1.cell? ⟨w.heap.size, 1, none⟩ = some (.int .i64 al) ∧ W1.cell? ⟨w.heap.size, 22, none⟩ = some (.slice va an ca) ∧ W1.cell? ⟨w.heap.size, 23, none⟩ = some (.int .i64 ad) ∧ W1.cell? ⟨w.heap.size + 1, 1, none⟩ = some (.int .i64 bl) ∧ W1.cell? ⟨w.heap.size + 1, 22, none⟩ = some (.slice vb bn cb) ∧ W1.cell? ⟨w.heap.size + 1, 23, none⟩ = some (.int .i64 bd)) → ((W1.setRow (w.heap.size + 1 + 1) cs).heap[w.heap.size]? = some (.cells X 34 (0, 0)) ∧ (W1.setRow (w.heap.size + 1 + 1) cs).heap[w.heap.size + 1]? = some (.cells Y 34 (0, 0)) ∧ (W1.setRow (w.heap.size + 1 + 1) cs).cell? ⟨w.heap.size, 0, none⟩ = some (.int .i64 ag) ∧ (W1.setRow (w.heap.size + 1 + 1) cs).cell? ⟨w.heap.size, 1, none⟩ = some (.int .i64 al) ∧ (W1.setRow (w.heap.size + 1 + 1) cs).cell? ⟨w.heap.size, 22, none⟩ = some (.slice va an ca) ∧ (W1.setRow (w.heap.size + 1 + 1) cs).cell? ⟨w.heap.size, 23, none⟩ = some (.int .i64 ad) ∧ (W1.setRow (w.heap.size + 1 + 1) cs).cell? ⟨w.heap.size + 1, 1, none⟩ = some (.int .i64 bl) ∧ (W1.setRow (w.heap.size + 1 + 1) cs).cell? ⟨w.heap.size + 1, 22, none⟩ = some (.slice vb bn cb) ∧ (W1.setRow (w.heap.size + 1 + 1) cs).cell? ⟨w.heap.size + 1, 23, none⟩ = some (.int .i64 bd))) := hide fun W1 cs h => by
      obtain ⟨h1, h2, h3, h4, h5, h6, h7, h8, h9⟩ := h
      refine ⟨(setRow_other _ _ _ _ (by omega)).trans h1, (setRow_other _ _ _ _ (by omega)).trans h2, ?_, ?_, ?_, ?_, ?_, ?_, ?_⟩
      all_goals
        rw [cell_setRow_other _ _ _ _ (by show ¬ _ = _; simp only []; omega)]
        assumption
    have HH := hide (hC.out w2 (Below.refl _ _)).1
    go_upto_region 5 with (fail)
    clear a0 a1 a22 a23 b0 b1 b22 b23 r1 r2 r3
    go_region_held3 (fun w' => w'.heap[w.heap.size]? = some (.cells X 34 (0, 0)) ∧ w'.heap[w.heap.size + 1]? = some (.cells Y 34 (0, 0)) ∧ w'.cell? ⟨w.heap.size, 0, none⟩ = some (.int .i64 ag) ∧ w'.cell? ⟨w.heap.size, 1, none⟩ = some (.int .i64 al) ∧ w'.cell? ⟨w.heap.size, 22, none⟩ = some (.slice va an ca) ∧ w'.cell? ⟨w.heap.size, 23, none⟩ = some (.int .i64 ad) ∧ w'.cell? ⟨w.heap.size + 1, 1, none⟩ = some (.int .i64 bl) ∧ w'.cell? ⟨w.heap.size + 1, 22, none⟩ = some (.slice vb bn cb) ∧ w'.cell? ⟨w.heap.size + 1, 23, none⟩ = some (.int .i64 bd))
      (first | exact HH.out | exact HR2.out | exact HR3.out | exact HSt.out _ _ HR3.out | assumption)
      (first
        | (go_at_call 47; (with_reducible refine (KP.out _).mono ?_); rintro e w3 ⟨rfl, hb3⟩; have B3 : Hid (Below w2.heap.size w2 w3) := hide (below_undrew' hb3); have HR2 := hide (hC.out w3 B3.out).1)
        | (go_at_call 49; (with_reducible refine (KJ.out _ B3.out).mono ?_); rintro e w4 ⟨v, rfl, ho, hb4⟩; obtain ⟨A, c, rfl, hcp, hvs, hnn⟩ := row_votes ho; have HO := hide ho; have HQ := hide (And.intro hcp (And.intro hvs hnn)); clear ho hcp hvs hnn; have B4 : Hid (Below w2.heap.size w2 w4) := hide (B3.out.trans (hb4.mono B3.out.size)); have HR3 := hide (hC.out w4 B4.out).1; have rz := (hC.out w4 B4.out).2)
        | fail)
    all_goals
      clear HR2 hb3 hb4 hC HSt
      have q := HQ.out
      have hP : RecP w2 (joinKn a b) (RJ A c) w4 := ⟨A, c, ⟨HRC.out A c, by have := q.2.1; rw [HL.out] at this; exact this, by rw [show (joinKn a b).vs = L from HL.out.symm]; have := HLL.out; omega, q.2.2, by rw [show (joinKn a b).vs = L from HL.out.symm]; exact q.1⟩, by
        have := ownV_less HO.out B3.out.size
        rw [show (joinKn a b).vs = L from HL.out.symm]; exact this, B4.out⟩
      have HP := hide hP
      clear hP q
      go_wp2
      refine bodyPost_ret (results_cell_tmp (fn := Try.f13) Try.results13 _ _ (w.heap.size + 1 + 1) 34 (RJ A c) (0, 0) _ rfl (setRow_heap w4 _ _ _ _ _ rz) Try.underlying34 rfl (by rw [rjs]; exact info_rec)) rfl ?_
      rw [hJ.out, HE.out]
      exact ⟨RJ A c, rfl, HP.out.store B2.out (by omega) (by have := S2.out; omega) _⟩
  · have hne : (ag != bg) = true := by simpa using c1
    have hJ : Hid (J = newK a b) := hide (by rw [HJ.out, ← HAG.out, ← HBG.out, if_neg c1])
    go_wp2_with fail
    refine KN.out.mono ?_
    rintro e w3 ⟨X', rfl, hP⟩
    dsimp only
    have x3 := (hP.choose_spec.choose_spec.2.2.block (w.heap.size + 1 + 1) (by have := S2.out; omega)).trans r3
    have xs := hP.choose_spec.choose_spec.1.rc.size
    have xx := hP.choose_spec.choose_spec.1.rc.x0
    have xo := hP.choose_spec.choose_spec.1.rc.one
    have HP := hide hP
    clear hP a0 a1 a22 a23 b0 b1 b22 b23 r1 r2 r3
    go_wp2
    refine bodyPost_ret (results_cell_tmp (fn := Try.f13) Try.results13 _ _ (w.heap.size + 1 + 1) 34 X' (0, 0) _ rfl (setRow_heap w3 _ _ _ _ _ x3) Try.underlying34 rfl (by rw [xs]; exact info_rec)) rfl ?_
    rw [hJ.out, HE.out]
    exact ⟨X', rfl, HP.out.store B2.out (by omega) (by have := S2.out; omega) _⟩
end Go.Proofs.Ytmbddengmheeeaa
