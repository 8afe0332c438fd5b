/-
  The walk of geneve.parseOpts.
-/
import Derived.Test.YtdmlgogjipcggaaGnp
import Derived.Test.YtdmlgogjipcggaaGni
import Derived.Test.YtdmlgogjipcggaaMrd
import Derived.Test.YtdmlgogjipcggaaBits
namespace Go.Proofs.Ytdmlgogjipcggaa
open Go.RowKit
set_option maxRecDepth 100000
set_option linter.unusedVariables false
set_option linter.unusedSimpArgs false
attribute [local go_sem ↓] exec_span exec_put exec_build heap_alloc_new heap_old
attribute [local go_sem] spanQ_ptr spanC_some heap_of_drew heap_of_drewN putAt_ptr putOk_ptr oldOk_some World.setRow_alloc_new rs_tunG rs_rtunG rs_optG rs_roptG

theorem RdS.growG {g : Nat} {A : Option Addr} {l : List UInt8} {c k : Nat} {er : Int} {w w' : World} {row : Option Nat} (h : RdS g A l c w k er) (hg : w.grownBy w' row) (hr : ∀ i, row = some i → g < i) : RdS g A l c w' k er :=
  ⟨h.rd.grown hg (fun e => by have := hr g e; omega), fun hl => by
    obtain ⟨b, off, e, hb, hc⟩ := h.by' hl
    exact ⟨b, off, e, hb, fun i hi => hg.cell (hc i hi) (fun e2 => by have := hr b e2.symm; omega)⟩, h.le⟩
theorem and_i64 {N : Nat} (j : Nat) (hj : j ≤ 32) (h : N < 9223372036854775808) : bits BinOp.and IntKind.i64 (N : Int) ((2 ^ j - 1 : Nat) : Int) = ((N % 2 ^ j : Nat) : Int) := by
  have h2 : 2 ^ j ≤ 2 ^ 32 := Nat.pow_le_pow_right (by decide) hj
  have e := i64_and_nat N (2 ^ j - 1) h (by omega)
  rwa [Nat.and_two_pow_sub_one_eq_mod] at e
theorem and31 {N : Nat} (h : N < 256) : bits BinOp.and IntKind.i64 (N : Int) 31 = ((N % 32 : Nat) : Int) := and_i64 5 (by decide) (by omega)
theorem and63 {N : Nat} (h : N < 256) : bits BinOp.and IntKind.i64 (N : Int) 63 = ((N % 64 : Nat) : Int) := and_i64 6 (by decide) (by omega)
theorem nat_and224 : ∀ n : Fin 256, (n.val &&& 224) = 32 * (n.val / 32) := by decide +kernel
theorem nat_and64 : ∀ n : Fin 256, (n.val &&& 64) = 64 * (n.val / 64 % 2) := by decide +kernel
theorem nat_and128 : ∀ n : Fin 256, (n.val &&& 128) = 128 * (n.val / 128) := by decide +kernel
theorem and224 {N : Nat} (h : N < 256) : bits BinOp.and IntKind.i64 (N : Int) 224 = ((32 * (N / 32) : Nat) : Int) := by
  rw [show (224 : Int) = ((224 : Nat) : Int) from rfl, i64_and_nat N 224 (by omega) (by decide), nat_and224 ⟨N, h⟩]
theorem and64 {N : Nat} (h : N < 256) : bits BinOp.and IntKind.i64 (N : Int) 64 = ((64 * (N / 64 % 2) : Nat) : Int) := by
  rw [show (64 : Int) = ((64 : Nat) : Int) from rfl, i64_and_nat N 64 (by omega) (by decide), nat_and64 ⟨N, h⟩]
theorem and128 {N : Nat} (h : N < 256) : bits BinOp.and IntKind.i64 (N : Int) 128 = ((128 * (N / 128) : Nat) : Int) := by
  rw [show (128 : Int) = ((128 : Nat) : Int) from rfl, i64_and_nat N 128 (by omega) (by decide), nat_and128 ⟨N, h⟩]
theorem wrap_i64q {n : Nat} (h : n < 9223372036854775808) : IntKind.i64.wrap (n : Int) = (n : Int) := by rw [IntKind.wrap_i64]; omega
def kOfG (w : World) (g : Nat) : Nat := match w.cell? ⟨g, 1, none⟩ with
  | some (.int _ z) => z.toNat
  | _ => 0
theorem kOfG_rd {w : World} {g : Nat} {A : Option Addr} {n c k : Nat} {er : Int} (h : Rd w g A n c k er) : kOfG w g = k := by
  unfold kOfG; rw [h.c1]; rfl
/-- options read so far, and what is left to read. -/
structure PoI (w wr : World) (g : Nat) (A : Option Addr) (c : Nat) (b : List UInt8) (R : List OpD × Int) (v : Value) (K n : Nat) (l : List OpG) : Prop where
  rd : RdS g A b c wr K 0
  og : OgS wr (g + 1) 60 v l
  far : ∀ x ∈ l, 0 < x.d.length → ∀ a, x.a = some a → g < a.block
  len : l.length ≤ K
  fuel : b.length ≤ K + n
  res : optsP b n K (l.map OpG.say) = R
  bel : Below w.heap.size w wr
  lo : w.heap.size ≤ g
/-- what parseOpts hands back. -/
def PoR (w : World) (R : List OpD × Int) (e : Ending) (w' : World) : Prop :=
  ∃ A c l m, e = .returned (.tuple #[.slice A m c, .int .i64 R.2]) ∧ m = l.length ∧ m ≤ 65536 ∧ l.map OpG.say = R.1 ∧ m ≤ c ∧ RdG w' w'.heap.size A l ∧ OgB w' w'.heap.size l ∧ (∀ a, A = some a → w.heap.size ≤ a.block) ∧ (∀ x ∈ l, 0 < x.d.length → ∀ a, x.a = some a → w.heap.size ≤ a.block) ∧ Below w.heap.size w w'
theorem optsP_end {b : List UInt8} {n K : Nat} {acc : List OpD} (h : b.length ≤ K) : optsP b n K acc = (acc, 0) := by
  cases n with
  | zero => rfl
  | succ n => unfold optsP; rw [if_pos h]
theorem optsP_short {b : List UInt8} {n K : Nat} {acc : List OpD} (h : K < b.length) (hf : b.length ≤ K + n) (h2 : b.length < K + 4 + 4 * (atN b (K + 3) 1 % 32)) : optsP b n K acc = ([], 10) := by
  cases n with
  | zero => omega
  | succ n => unfold optsP; rw [if_neg (by omega), if_pos h2]
theorem optsP_form {b : List UInt8} {n K : Nat} {acc : List OpD} (h : K < b.length) (hf : b.length ≤ K + n) (h2 : K + 4 + 4 * (atN b (K + 3) 1 % 32) ≤ b.length) (h3 : 32 ≤ atN b (K + 3) 1) : optsP b n K acc = ([], 11) := by
  cases n with
  | zero => omega
  | succ n => unfold optsP; rw [if_neg (by omega), if_neg (by omega), if_pos h3]
theorem optsP_next {b : List UInt8} {n K : Nat} {acc : List OpD} (h : K < b.length) (hf : b.length ≤ K + n) (h2 : K + 4 + 4 * (atN b (K + 3) 1 % 32) ≤ b.length) (h3 : atN b (K + 3) 1 < 32) :
    ∃ m, n = m + 1 ∧ optsP b n K acc = optsP b m (K + 4 + 4 * (atN b (K + 3) 1 % 32)) (acc ++ [((atN b K 2 : Int), (atN b (K + 2) 1 : Int), (b.drop (K + 4)).take (4 * (atN b (K + 3) 1 % 32)))]) := by
  cases n with
  | zero => omega
  | succ n => exact ⟨n, rfl, by rw [optsP, if_neg (by omega), if_neg (by omega), if_neg (by omega)]⟩

theorem built_opt2 (c t : Int) : Try.prog.built 60 [(0, .int .i64 c), (1, .int .i64 t)] = some #[.int .i64 c, .int .i64 t, .slice none 0 0] := by kernel_rfl
theorem opt_cells {w : World} {g : Nat} {c t : Int} {v : Value} {ty : TypeId} (hg : w.heap[g]? = some (.cells #[.int .i64 c, .int .i64 t, v] ty (0, 0))) :
    w.cell? ⟨g, 0, none⟩ = some (.int .i64 c) ∧ w.cell? ⟨g, 1, none⟩ = some (.int .i64 t) ∧ w.cell? ⟨g, 2, none⟩ = some v :=
  ⟨(cell_of_row w g 0 _ _ (0, 0) hg).trans rfl, (cell_of_row w g 1 _ _ (0, 0) hg).trans rfl, (cell_of_row w g 2 _ _ (0, 0) hg).trans rfl⟩
/-- the load of a whole struct, in a plain list. -/
theorem wpList_spanG {P : Program} {w : World} {ops : Array Oper} {rest : List Oper} {o : Oper} {a : Act} {Q : Exit → Act → World → Prop} (hgd : o.guard = none) (t : TypeId) (x : Operand)
    (ho : o.op = .load t x) (v : Value) (hx : a.eval x = v) {cs : Array Value} (hs : spanQ P t w v = some cs) (h : wpList P ops Q rest (a.put o.dst (.agg cs)) w) : wpList P ops Q (o :: rest) a w := by
  refine wpList_plain hgd fun K hK => ?_
  unfold Oper.wp execOp
  simp only [ho, Sem.run_bind, Sem.run_pure, hx, run_span hs, Result.andThen_ok]
  exact hK _ _ h
/-- what was asked of a Reader: where it stands then, and what else is as it was. -/
theorem PoI.asked {w wr w2 : World} {g : Nat} {A : Option Addr} {c : Nat} {b : List UInt8} {R : List OpD × Int} {v : Value} {K n : Nat} {l : List OpG} (h : PoI w wr g A c b R v K n l) (hg : wr.grownBy w2 (some g)) :
    OgS w2 (g + 1) 60 v l ∧ Below w.heap.size w w2 :=
  ⟨h.og.box hg (Nat.lt_succ_self _) (fun x hx hp a e e2 => by have := h.far x hx hp a e; omega), h.bel.grown hg h.bel.size (fun k e => by cases e; exact h.lo)⟩
set_option maxHeartbeats 8000000 in
theorem parseOpts_any (w : World) (A : Option Addr) (c : Nat) (b : List UInt8) (hb : Byt w w.heap.size A b) (hn : b.length ≤ 65536) :
    Calls Try.prog 32 #[.slice A b.length c] w (PoR w (optsP b b.length 0 [])) := by
  have KN := hide (newS w w.heap.size A b c (by omega) hb (Nat.le_refl _))
  obtain ⟨R, hR⟩ : ∃ R, R = optsP b b.length 0 [] := ⟨_, rfl⟩
  rw [← hR]
  have HR := hide hR
  have HN := hide hn
  obtain ⟨i0, hi, hz0, hz1, hz2⟩ := info_parts info_optG
  clear hR hn hb
  go_enter Try.func32, Try.ntmps32
  go_wp2_with fail
  refine KN.out.mono ?_
  rintro e w1 ⟨g, A', c', rfl, hRd, hl', hat, hg, hb1⟩
  have HI0 : Hid (PoI w w1 g A' c' b R (.slice none 0 0) 0 b.length []) := hide ⟨hRd, OgS.nil _ _ _, fun x hx => by simp at hx, Nat.zero_le _, by omega, HR.out.symm, hb1, hg⟩
  have HGW := hide hg
  clear KN hb1 hRd hat hg
  dsimp only
  go_wp2
  go_loopw [5, 6, 7, 8] (fun v _ _ _ wr => ∃ K n l, Hid (PoI w wr g A' c' b R v K n l)) (fun _ _ _ _ wr => b.length - kOfG wr g)
  case atStart => exact ⟨0, _, [], HI0⟩
  case round =>
    obtain ⟨K, n, l, hI⟩ := hrel
    have hK0 := hI.out.rd.le
    have hkof := kOfG_rd hI.out.rd.rd
    have HKOF := hide hkof
    have HNB : Hid (b.length ≤ 140737488420864) := hide (by have := HN.out; omega)
    clear hkof
    go_wp2_with fail
    refine (left_any wr g A' b.length c' K 0 hI.out.rd.rd HNB.out hK0).mono ?_
    rintro e w2 ⟨rfl, q, rfl⟩
    obtain ⟨W, hW⟩ : ∃ W, W = wr.drewN q := ⟨_, rfl⟩
    have hI1 : Hid (PoI w W g A' c' b R u5 K n l) := hide (by
      rw [hW]
      have hb : Below wr.heap.size wr (wr.drewN q) := below_drewN (Below.refl _ _) q
      exact ⟨hI.out.rd.below hb, hI.out.og.below hb, hI.out.far, hI.out.len, hI.out.fuel, hI.out.res, hI.out.bel.trans (hb.mono hI.out.bel.size), hI.out.lo⟩)
    rw [← hW]
    clear hW hI
    dsimp only
    by_cases hlt : K < b.length
    · have hgt : (b.length : Int) - (K : Int) > 0 := by omega
      have hj0 : RdI b K K 0 := .inl ⟨rfl, rfl, by omega⟩
      go_wp2_with fail
      refine (numI (g := g) (c := c') (A := A') W 2 hI1.out.rd hj0 (by decide) (by decide) hl' HNB.out).mono ?_
      rintro e w3 ⟨N1, k1, r1, rfl, hR3, i3, hN1, e1, g3⟩
      obtain ⟨og3, bl3⟩ := hI1.out.asked g3
      have w1' := wrap_i64q (n := N1) (by omega)
      have H3 := hide (And.intro og3 bl3)
      have E1 := hide e1
      clear og3 bl3 e1 g3 hj0
      have hbb := hI1.out.lo
      have HLO := hide hI1.out.lo
      dsimp only
      go_wp2_with fail
      refine (numI (g := g) (c := c') (A := A') w3 1 hR3 i3 (by decide) (by decide) hl' HNB.out).mono ?_
      rintro e w4 ⟨N2, k2, r2, rfl, hR4, i4, hN2, e2, g4⟩
      have w2' := wrap_i64q (n := N2) (by omega)
      have E2 := hide e2
      have o4 := H3.out.1.box g4 (Nat.lt_succ_self _) (fun x hx hp a e e2 => by have := hI1.out.far x hx hp a e; omega)
      have b4 := H3.out.2.grown g4 H3.out.2.size (fun k e => by cases e; exact HLO.out)
      have H4 := hide (And.intro o4 b4)
      have hbo := built_opt2 (N1 : Int) (N2 : Int)
      have hone : allOne #[Value.int .i64 (N1 : Int), Value.int .i64 (N2 : Int), Value.slice none 0 0] = true := by simp [allOne, Value.oneCell']
      clear e2 o4 b4 g4 H3 hR3 i3
      dsimp only
      go_wp2_with fail
      obtain ⟨W5, hW5, r5, z5, b5⟩ := alloc_tl w4 (.cells #[.int .i64 (N1 : Int), .int .i64 (N2 : Int), .slice none 0 0] 60)
      rw [hW5]
      obtain ⟨go, hgo⟩ : ∃ x, x = w4.heap.size := ⟨_, rfl⟩
      rw [← hgo] at r5 ⊢
      have hR5 := hR4.below b5
      have H5 := hide (And.intro (H4.out.1.below b5) (H4.out.2.trans (b5.mono H4.out.2.size)))
      have hgg : g < go := by rw [hgo]; exact hR4.rd.lt
      have HG := hide (And.intro hgg (show go < W5.heap.size by omega))
      have HR5 := hide r5
      have HOW : Hid (∀ k, u5.ownBlock = some k → k < go) := hide (fun k hk => by rw [hgo]; exact (World.ownsRow.lt H4.out.1.row k hk).2)
      have HAL : Hid (∀ x ∈ l, 0 < x.d.length → ∀ a, x.a = some a → a.block < go) := hide (fun x hx hp a e => by rw [hgo]; exact (H4.out.1.ob x hx).1.blk hp e)
      clear hW5 z5 b5 hR4 H4 hgo hgg r5
      refine (numI (g := g) (c := c') (A := A') W5 1 hR5 i4 (by decide) (by decide) hl' HNB.out).mono ?_
      rintro e w6 ⟨N3, k3, r3, rfl, hR6, i6, hN3, e3, g6⟩
      have w3' := wrap_i64q (n := N3) (by omega)
      have E3 := hide e3
      have o6 := H5.out.1.box g6 (Nat.lt_succ_self _) (fun x hx hp a e e2 => by have := hI1.out.far x hx hp a e; omega)
      have b6 := H5.out.2.grown g6 H5.out.2.size (fun k e => by cases e; exact HLO.out)
      have H6 := hide (And.intro o6 b6)
      have r6 : w6.heap[go]? = some (.cells #[.int .i64 (N1 : Int), .int .i64 (N2 : Int), .slice none 0 0] 60 (0, 0)) := (g6.block go HG.out.2 (by have := HG.out.1; simp; omega)).trans HR5.out
      have HR6 := hide r6
      have HG6 : Hid (go < w6.heap.size) := hide (Nat.lt_of_lt_of_le HG.out.2 g6.size)
      have a31 := and31 (N := N3) (by omega)
      obtain ⟨S, hS⟩ : ∃ S, S = N3 % 32 := ⟨_, rfl⟩
      rw [← hS] at a31
      have HS := hide hS
      have hS32 : S < 32 := by omega
      have wm : IntKind.i64.wrap (4 * (S : Int)) = ((4 * S : Nat) : Int) := by rw [IntKind.wrap_i64]; omega
      have wm2 : wrap64 (4 * (S : Int)) = ((4 * S : Nat) : Int) := by rw [Go.IntWalk.wrap64_in _ (by omega)]; omega
      clear e3 o6 b6 g6 H5 hR5 i4 hS r6 hone
      dsimp only
      go_wp2_with fail
      first | rw [wm] | rw [wm2] | skip
      refine (takeI (g := g) (c := c') (A := A') w6 (4 * S) hR6 i6 hl' HNB.out).mono ?_
      rintro e w7 ⟨d, Ad, cd, k4, r4, rfl, hbd, hcd, hnd, had, hR7, i7, hdl, e4, g7⟩
      have o7 := H6.out.1.box g7 (Nat.lt_succ_self _) (fun x hx hp a e e2 => by have := hI1.out.far x hx hp a e; omega)
      have b7 := H6.out.2.grown g7 H6.out.2.size (fun k e => by cases e; exact HLO.out)
      have H7 := hide (And.intro o7 b7)
      have r7 : w7.heap[go]? = some (.cells #[.int .i64 (N1 : Int), .int .i64 (N2 : Int), .slice none 0 0] 60 (0, 0)) := (g7.block go HG6.out (by have := HG.out.1; simp; omega)).trans HR6.out
      have c7 := (opt_cells r7).2.2
      have f7 := frozen_of_row w7 go 2 _ _ r7
      have HR7 := hide r7
      have HD := hide (And.intro hbd (And.intro hcd (And.intro hnd (And.intro had (And.intro hdl e4)))))
      obtain ⟨nd, hnd'⟩ : ∃ n, n = d.length := ⟨_, rfl⟩
      rw [← hnd']
      have HND := hide hnd'
      clear o7 b7 r7 hbd hcd hnd had hdl e4 g7 H6 hR6 i6 wm wm2 hnd'
      dsimp only
      go_wp2_with fail
      obtain ⟨W8, hW8⟩ : ∃ W, W = w7.setCell ⟨go, 2, none⟩ (.slice Ad nd cd) := ⟨_, rfl⟩
      rw [← hW8]
      have gs8 : w7.grownBy W8 (some go) := by rw [hW8]; exact grown_set w7 go 2 _
      have r8 : W8.heap[go]? = some (.cells #[.int .i64 (N1 : Int), .int .i64 (N2 : Int), .slice Ad nd cd] 60 (0, 0)) := by rw [hW8]; exact heap_setCell_same w7 go 2 _ _ _ HR7.out
      have hgg := HG.out.1
      have hRd8 := hR7.growG gs8 (fun i e => by cases e; exact hgg)
      have og8 : OgS W8 (g + 1) 60 u5 l := H7.out.1.grown gs8 (by
        cases hv : u5.ownBlock with
        | none => exact .inl rfl
        | some k => have := HOW.out k hv; exact .inr (by simp; omega)) (fun x hx hp a e e2 => by have := HAL.out x hx hp a e; have := Option.some.inj e2; omega)
      have bl8 : Below w.heap.size w W8 := H7.out.2.grown gs8 H7.out.2.size (fun k e => by cases e; have := HLO.out; omega)
      have H8 := hide (And.intro og8 (And.intro bl8 r8))
      have HRD8 := hide hRd8
      have hsp : spanQ Try.prog 60 W8 (.pointer (some ⟨go, 0, none⟩)) = some #[.int .i64 (N1 : Int), .int .i64 (N2 : Int), .slice Ad nd cd] := by rw [spanQ_ptr, rs_optG, r8]; rfl
      have HSP := hide hsp
      have HBY : Hid (Byt W8 W8.heap.size Ad d) := hide ((HD.out.1.grown gs8 (fun hp a e => by have h1 := HD.out.2.2.2.1 a e; have h2 := HG6.out; simp; omega)).more gs8.size)
      have HI7 := hide i7
      clear hW8 gs8 r8 hgg og8 bl8 hRd8 hR7 c7 f7 HR7 H7 hsp i7
      refine (err_any W8 g A' b.length c' k4 r4 HRD8.out.rd).mono ?_
      rintro e w9 ⟨rfl, rfl⟩
      dsimp only
      by_cases hr4 : r4 = 0
      · subst hr4
        have hk4 : k4 = K + 4 + 4 * S ∧ K + 4 + 4 * S ≤ b.length := by
          rcases HI7.out with ⟨-, h1, h2⟩ | ⟨h1, -⟩
          · omega
          · cases h1
        have a224 := and224 (N := N3) (by omega)
        have HK4 := hide hk4
        have q1 : N1 = atN b K 2 := E1.out (by omega)
        have q2 : N2 = atN b (K + 2) 1 := E2.out (by omega)
        have q3 : N3 = atN b (K + 3) 1 := E3.out (by omega)
        have q4 : d = (b.drop (K + 4)).take (4 * S) := HD.out.2.2.2.2.2 (by omega)
        have HQ := hide (And.intro q1 (And.intro q2 (And.intro q3 q4)))
        have hle := hI1.out.fuel
        have HRE := hide hI1.out.res
        by_cases h32 : N3 < 32
        · have hd0 : N3 / 32 = 0 := by omega
          rw [hd0] at a224
          have a224' : bits BinOp.and IntKind.i64 (N3 : Int) 224 = 0 := a224
          obtain ⟨mm, hmm, hnx⟩ := optsP_next (acc := l.map OpG.say) hlt hle (by rw [← q3, ← HS.out]; omega) (by rw [← q3]; exact h32)
          rw [← q1, ← q2, ← q3, ← HS.out, ← q4] at hnx
          rw [hnx] at HRE
          have HHM := hide hmm
          have HO2 : Hid ((W8.alloc (.cells #[.int .i64 (N1 : Int), .int .i64 (N2 : Int), .slice Ad nd cd] 60)).ownsRow (g + 1) 60 3 u5 l.length (ogsC l)) := hide (World.ownsRow.alloc H8.out.1.row _)
          have HLIT : Hid ((W8.alloc (.cells #[.int .i64 (N1 : Int), .int .i64 (N2 : Int), .slice Ad nd cd] 60)).heap[W8.heap.size]? = some (.cells #[.int .i64 (N1 : Int), .int .i64 (N2 : Int), .slice Ad nd cd] 60 (0, 0))) := hide (heap_alloc_new W8 _)
          have hlk := hI1.out.len
          have hbn := HN.out
          have HM1 : Hid (l.length + 1 ≤ maxLen) := hide (by unfold maxLen; omega)
          have HM2 : Hid ((l.length + 1) * 40 ≤ 140737488355328) := hide (by omega)
          have HM3 : Hid (g + 1 ≤ (W8.alloc (.cells #[.int .i64 (N1 : Int), .int .i64 (N2 : Int), .slice Ad nd cd] 60)).heap.size) := hide (by have := HRD8.out.rd.lt; simp; omega)
          have HM4 : Hid ((W8.alloc (.cells #[.int .i64 (N1 : Int), .int .i64 (N2 : Int), .slice Ad nd cd] 60)).heap.size = W8.heap.size + 1) := hide (by simp)
          clear a224 hd0 hk4 q1 q2 q3 q4 hle hmm hnx hlk hbn
          go_wp2_with (first
            | (refine wpList_spanG rfl 60 (.tmp 6) rfl _ rfl HSP.out ?_)
            | (refine wpList_append_lies _ (by rfl) (.tmp 38) (.tmp 40) 26 (by rfl) (g + 1) 60 i0 _ 3 40 Try.underlying26 hi hz0 hz1 hz2 rfl (by omega) u5 l.length (ogsC l) (by rfl) HO2.out ⟨W8.heap.size, 0, none⟩ 1 1 [.int .i64 (N1 : Int), .int .i64 (N2 : Int), .slice Ad nd cd] (by rfl) (by rfl) (World.news_of_block (cs := #[.int .i64 (N1 : Int), .int .i64 (N2 : Int), .slice Ad nd cd]) (t := 60) (fr := (0, 0)) HLIT.out) (by simp [Value.oneCell']) (by omega) HM1.out HM2.out HM3.out (W8.heap.size + 1) HM4.out ?_; intro gg cap w9 hown9 hg9 hat9 hlt9; have HO9 := hide hown9; have HG9 := hide hg9; have HA9 := hide hat9; clear hown9 hg9 hat9 hlt9)
            | fail)
          have hgw : W8.grownBy w9 u5.ownBlock := (World.grownBy_alloc W8 (.cells #[.int .i64 (N1 : Int), .int .i64 (N2 : Int), .slice Ad nd cd] 60) _).trans HG9.out
          have hlo5 : ∀ i, u5.ownBlock = some i → g < i := fun i e => by have := (World.ownsRow.lt H8.out.1.row i e).1; omega
          have hrd9 := HRD8.out.growG hgw hlo5
          have hka := HK4.out.1
          have hkb := HK4.out.2
          have hgo := HG.out.1
          have hg6 := HG6.out
          have hmm := HHM.out
          have hfu := hI1.out.fuel
          have hle := hI1.out.len
          have hog9 : OgS w9 (g + 1) 60 (.slice (some ⟨gg, 0, none⟩) (l.length + 1) cap) (l ++ [⟨N1, N2, Ad, cd, d⟩]) := H8.out.1.snoc hgw (by unfold ogC; rw [← HND.out]; exact HO9.out) (fun k e => by
            cases e
            rcases HA9.out with h1 | h1
            · exact .inl h1
            · exact .inr (by show W8.heap.size ≤ gg; omega)) ⟨HBY.out, HD.out.2.2.1, HD.out.2.1⟩ (fun hp a e e2 => by have h1 := HD.out.2.2.2.1 a e; have h2 := HOW.out _ e2; omega)
          have hP : PoI w w9 g A' c' b R (.slice (some ⟨gg, 0, none⟩) (l.length + 1) cap) k4 mm (l ++ [⟨N1, N2, Ad, cd, d⟩]) := by
            refine ⟨hrd9, hog9, fun x hx hp a e => ?_, by rw [List.length_append]; simp; omega, by omega, ?_, H8.out.2.1.grown hgw H8.out.2.1.size (fun k e => by have := hlo5 k e; have := HLO.out; omega), HLO.out⟩
            · rcases List.mem_append.1 hx with h1 | h1
              · exact hI1.out.far x h1 hp a e
              · rw [List.mem_singleton] at h1; subst h1
                have := HD.out.2.2.2.1 a e; omega
            · rw [hka, List.map_append]; exact HRE.out
          have hk9 := kOfG_rd hrd9.rd
          exact ⟨⟨_, _, _, hide hP⟩, by rw [hk9, HKOF.out]; omega⟩
        · have hd1 : 32 * (N3 / 32) ≠ 0 := by omega
          have a224' : (bits BinOp.and IntKind.i64 (N3 : Int) 224 != 0) = true := by rw [a224]; simp; omega
          have hR11 := optsP_form (acc := l.map OpG.say) hlt hle (by rw [← q3, ← HS.out]; omega) (by rw [← q3]; omega)
          have HE : Hid (R = ([], 11)) := hide (HRE.out.symm.trans hR11)
          clear a224 hd1 hR11 hk4 q1 q2 q3 q4 hle
          go_wp2
          go_ret2
          rw [HE.out]
          exact ⟨none, 0, [], 0, rfl, rfl, by decide, rfl, Nat.le_refl _, fun h => by simp at h, OgB.nil _ _, (fun a e => by cases e), (fun x hx => by simp at hx), H8.out.2.1⟩
      · have hr10 : r4 = 10 ∧ b.length < K + 4 + 4 * S := by
          rcases HI7.out with ⟨h1, -⟩ | ⟨h1, h2⟩
          · exact absurd h1 hr4
          · exact ⟨h1, by omega⟩
        have hsh : b.length < K + 4 + 4 * (atN b (K + 3) 1 % 32) := by
          rcases Nat.lt_or_ge b.length (K + 4) with h1 | h1
          · omega
          · have q3 : N3 = atN b (K + 3) 1 := E3.out (by omega)
            rw [← q3, ← HS.out]; exact hr10.2
        have hR10 := optsP_short (acc := l.map OpG.say) hlt hI1.out.fuel hsh
        have HE : Hid (R = ([], 10)) := hide (hI1.out.res.symm.trans hR10)
        obtain ⟨rfl, -⟩ := hr10
        clear hsh hR10 hr4
        go_wp2
        go_ret2
        rw [HE.out]
        exact ⟨none, 0, [], 0, rfl, rfl, by decide, rfl, Nat.le_refl _, fun h => by simp at h, OgB.nil _ _, (fun a e => by cases e), (fun x hx => by simp at hx), H8.out.2.1⟩
    · have hng : ¬ ((b.length : Int) - (K : Int) > 0) := by omega
      obtain ⟨Av, cv, hv, hvc, hvs⟩ := hI1.out.og.rd
      have HL6 : Hid (l.length ≤ 65536) := hide (by have := hI1.out.len; have := HN.out; omega)
      have hlo := hI1.out.lo
      have HFA : Hid ((∀ a, Av = some a → w.heap.size ≤ a.block) ∧ ∀ x ∈ l, 0 < x.d.length → ∀ a, x.a = some a → w.heap.size ≤ a.block) := hide ⟨fun a e => by
        rcases hI1.out.og.row.2 with ⟨h1, -⟩ | ⟨gg, cap, cur, h1, h2, -⟩
        · rw [hv, e] at h1; cases h1
        · rw [hv, e] at h1; cases h1; show w.heap.size ≤ gg; omega, fun x hx hp a e => by have := hI1.out.far x hx hp a e; omega⟩
      have HV := hide (And.intro hvs (And.intro hvc (And.intro hI1.out.og.ob hI1.out.bel)))
      have HE : Hid (R = (l.map OpG.say, 0)) := hide (hI1.out.res.symm.trans (optsP_end (by omega)))
      subst hv
      clear hvs hvc hlt hlo
      go_wp2
      go_ret2
      rw [HE.out]
      exact ⟨Av, cv, l, l.length, rfl, rfl, HL6.out, rfl, HV.out.2.1, HV.out.1, HV.out.2.2.1, HFA.out.1, HFA.out.2, HV.out.2.2.2⟩
end Go.Proofs.Ytdmlgogjipcggaa
