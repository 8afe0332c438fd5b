/-
  The walk of geneve.Put.
-/
import Derived.Test.YtdlilokmfekndaaGnc
namespace Go.Proofs.Ytdlilokmfekndaa
open Go.RowKit
set_option maxRecDepth 100000
set_option linter.unusedVariables false
set_option linter.unusedSimpArgs false

def FreeG (w : World) (g k : Nat) : Prop := g < k ∧ k < w.heap.size ∧ ∀ (vv oo : Value), w.heap[g]? = some (.cells #[vv, oo] 91 (0, 0)) → vv.ownBlock ≠ some k ∧ oo.ownBlock ≠ some k
theorem stAlloc {W wr : World} {g : Nat} {its : List VItem} {ops : List (Int × Int)} (h : StG W wr g its ops) (o : Obj) : StG W (wr.alloc o) g its ops ∧ FreeG (wr.alloc o) g wr.heap.size := by
  obtain ⟨vv, oo, hL, hb⟩ := h
  have hgl : g < wr.heap.size := (Array.getElem?_eq_some_iff.1 hL.row).1
  have b1 : Below wr.heap.size wr (wr.alloc o) := (Below.refl _ _).alloc (Nat.le_refl _) _
  have r1 := (b1.block g hgl).trans hL.row
  refine ⟨⟨vv, oo, ⟨r1, hL.lt, World.ownsRow.alloc hL.v _, World.ownsRow.alloc hL.o _, hL.d, Nat.le_trans hL.b b1.size⟩, hb.trans (b1.mono (Nat.le_of_lt hgl))⟩, hgl, by simp, fun v2 o2 hr => ?_⟩
  have e := r1.symm.trans hr
  simp only [Option.some.injEq, Obj.cells.injEq, Array.mk.injEq, List.cons.injEq] at e
  obtain ⟨⟨rfl, rfl, -⟩, -⟩ := e
  exact ⟨fun e => by have := (World.ownsRow.lt hL.v _ e).2; omega, fun e => by have := (World.ownsRow.lt hL.o _ e).2; omega⟩
/-- a number is laid; a box beside stays. -/
theorem stNumB {W wr : World} {g : Nat} {its : List VItem} {ops : List (Int × Int)} (h : StG W wr g its ops) (hl : its.length ≤ 8388608) (hl2 : ops.length ≤ 8388608) {k : Nat} (hf : FreeG wr g k) (sz : Int) (N : Nat) (hN : N < 9223372036854775808) :
    Calls Try.prog 39 #[.pointer (some ⟨g, 0, none⟩), .int .i64 sz, .int .i64 (N : Int)] wr fun e w' => e = .returned (.tuple #[]) ∧ StG W w' g (its ++ [numIG N]) (ops ++ [(0, sz)]) ∧ w'.heap[k]? = wr.heap[k]? ∧ FreeG w' g k :=
  (stNum h hl hl2 sz N hN).mono fun e w' ⟨h1, h2, h3⟩ => by
    obtain ⟨h4, h5⟩ := h3 k hf.1 hf.2.1 hf.2.2
    have hk : k < w'.heap.size := by
      have e := (Array.getElem?_eq_getElem hf.2.1)
      exact (Array.getElem?_eq_some_iff.1 (h4.trans e)).1
    exact ⟨h1, h2, h4, hf.1, hk, h5⟩
theorem stBelow {W wr w' : World} {g : Nat} {its : List VItem} {ops : List (Int × Int)} (h : StG W wr g its ops) (b1 : Below wr.heap.size wr w') : StG W w' g its ops := by
  obtain ⟨vv, oo, hL, hb⟩ := h
  have hgl : g < wr.heap.size := (Array.getElem?_eq_some_iff.1 hL.row).1
  exact ⟨vv, oo, ⟨(b1.block g hgl).trans hL.row, hL.lt, World.ownsRow.kept hL.v (Below.row b1 none) (Classical.em _), World.ownsRow.kept hL.o (Below.row b1 none) (Classical.em _), hL.d, Nat.le_trans hL.b b1.size⟩, hb.trans (b1.mono (Nat.le_of_lt hgl))⟩
theorem StG.bel {W wr : World} {g : Nat} {its : List VItem} {ops : List (Int × Int)} (h : StG W wr g its ops) : Below g W wr := by obtain ⟨_, _, _, hb⟩ := h; exact hb
theorem sizeG_four (l : List OpG) : 4 * l.length ≤ sizeG l := by
  induction l with
  | nil => simp [sizeG]
  | cons a l ih => simp only [sizeG, List.length_cons]; omega
theorem upG_nat {m n : Int} (h : upG m n = true) : ∃ N : Nat, n = (N : Int) ∧ n ≤ m := by
  unfold upG at h
  simp at h
  exact ⟨n.toNat, by omega, h.2⟩
def putR (o : Bool) (p v : Int) (l : List OpG) (I : Option Addr) (k : Nat) (D : List UInt8) : List UInt8 × Nat :=
  if rightG p v l = false then ([], 1) else if 252 < sizeG l then ([], 3) else layR ((itsG (sizeG l / 4) (flG o l).toNat p.toNat v.toNat l ++ [(⟨0, .slice I D.length k, D⟩ : VItem)]).map fun it => (it.N, it.b)) (opsG l ++ [(1, (D.length : Int))])

set_option maxHeartbeats 8000000 in
theorem genPut_any (w : World) (o : Bool) (p v : Int) (A I : Option Addr) (c k : Nat) (l : List OpG) (D : List UInt8) (h : RdG w w.heap.size A l) (hl : l.length ≤ 1048576) (hs : sizeG l ≤ 4611686018427387904) (hB : ∀ x ∈ l, Byt w w.heap.size x.a x.d ∧ (x.a = none → x.k = 0)) (hI : Byt w w.heap.size I D) (hIn : I = none → k = 0) :
    Calls Try.prog 18 #[.agg (tunA o p v A l.length c I D.length k)] w fun e w' => ∃ A' c', e = .returned (.tuple #[.slice A' (putR o p v l I k D).1.length c', .int .i64 ((putR o p v l I k D).2 : Int)]) ∧ OwnB w' w.heap.size (.slice A' (putR o p v l I k D).1.length c') (putR o p v l I k D).1 ∧ Below w.heap.size w w' := by
  obtain ⟨W, hW, r1, hz, hbW⟩ := one_blk w (.cells (tunA o p v A l.length c I D.length k) 31)
  have hcc := hide (fun (W1 : World) (b : Below W.heap.size W W1) => tunA_cells ((b.block w.heap.size (by omega)).trans r1))
  obtain ⟨c0, c1, c2, c3, c4⟩ := hcc.out W (Below.refl _ _)
  have HRD := hide (fun (W1 : World) (b : Below w.heap.size w W1) => (h.below b).more b.size)
  have KR := hide (fun (W1 : World) (b : Below w.heap.size w W1) => rightG_any W1 o p v A I c D.length k l (HRD.out W1 b) hl)
  have KS := hide (fun (W1 : World) (b : Below w.heap.size w W1) => sizeOpts_any W1 A c l (HRD.out W1 b) hs hl)
  have KF := hide (fun (W1 : World) (b : Below w.heap.size w W1) => flags_any W1 o p v A I c D.length k l (HRD.out W1 b) hl)
  unfold tunA at KR KF
  have HB := hide hbW
  have HZ := hide hz
  have HBB := hide hB
  have HI := hide (And.intro hI hIn)
  have HRG := hide h
  obtain ⟨R, hR⟩ : ∃ R, R = putR o p v l I k D := ⟨_, rfl⟩
  rw [← hR]
  unfold putR at hR
  clear hbW hz h hB hI hIn
  cases hrg : rightG p v l
  · rw [if_pos hrg] at hR
    subst hR
    rw [hrg] at KR
    go_enter Try.func18, Try.ntmps18
    go_wp2_with fail
    refine (KR.out W HB.out).mono ?_
    rintro e w1 ⟨rfl, b1⟩
    have B1 := hide (HB.out.trans (b1.mono HB.out.size))
    clear b1
    dsimp only
    go_wp2
    go_ret2
    exact ⟨none, 0, rfl, OwnB.nil _ _, B1.out⟩
  · rw [if_neg (by rw [hrg]; simp)] at hR
    have hrg' := hrg
    unfold rightG at hrg'
    simp only [Bool.and_eq_true] at hrg'
    obtain ⟨hp, hv, hall⟩ := hrg'
    rw [hrg] at KR
    obtain ⟨S, hS⟩ : ∃ S, S = sizeG l := ⟨_, rfl⟩
    rw [← hS] at KS hR
    have HSS := hide hS
    by_cases hbig : 252 < S
    · rw [if_pos hbig] at hR
      subst hR
      have hb2 : (252 : Int) < (S : Int) := by omega
      clear hS
      go_enter Try.func18, Try.ntmps18
      go_wp2_with fail
      refine (KR.out W HB.out).mono ?_
      rintro e w1 ⟨rfl, b1⟩
      have B1 := hide (HB.out.trans (b1.mono HB.out.size))
      obtain ⟨d0, d1, d2, d3, d4⟩ := hcc.out w1 b1
      clear b1
      dsimp only
      go_wp2_with fail
      refine (KS.out w1 B1.out).mono ?_
      rintro e w2 ⟨rfl, b2⟩
      have B2 := hide (B1.out.trans (b2.mono B1.out.size))
      clear b2
      dsimp only
      go_wp2
      go_ret2
      exact ⟨none, 0, rfl, OwnB.nil _ _, B2.out⟩
    · rw [if_neg hbig] at hR
      have hl63 : l.length ≤ 63 := by have := sizeG_four l; omega
      obtain ⟨pn, hpn, hp2⟩ := upG_nat hp
      obtain ⟨vn, hvn, hv2⟩ := upG_nat hv
      subst hpn hvn
      obtain ⟨F, hF, hF2⟩ : ∃ F : Nat, flG o l = (F : Int) ∧ F ≤ 192 := by
        refine ⟨(flG o l).toNat, ?_, ?_⟩ <;> (unfold flG; cases o <;> cases critG l <;> simp)
      rw [hF] at KF hR
      simp only [Int.toNat_natCast] at hR
      obtain ⟨q, hq⟩ : ∃ q, q = S / 4 := ⟨_, rfl⟩
      rw [← hq] at hR
      have hq4 : (S : Int) / 4 = (q : Int) := by omega
      have hq4t : (S : Int).tdiv 4 = (q : Int) := by rw [Int.tdiv_eq_ediv_of_nonneg (by omega)]; exact hq4
      have hwq : IntKind.i64.wrap (q : Int) = (q : Int) := IntWalk.i64_in _ (by omega)
      have hb2 : ¬ (252 : Int) < (S : Int) := by omega
      have HRR := hide hR
      have HALL : Hid (∀ x ∈ l, okG x = true) := hide (List.all_eq_true.1 hall)
      have HN : Hid (q < 9223372036854775808 ∧ F < 9223372036854775808 ∧ pn < 9223372036854775808 ∧ vn < 9223372036854775808) := hide (by omega)
      have HL63 := hide hl63
      clear hS hR hq hF hF2 hp hv hp2 hv2 hall hrg hl63 hbig hs hl
      go_enter Try.func18, Try.ntmps18
      go_wp2_with fail
      refine (KR.out W HB.out).mono ?_
      rintro e w1 ⟨rfl, b1⟩
      have C1 := hide b1
      have B1 := hide (HB.out.trans (b1.mono HB.out.size))
      obtain ⟨d0, d1, d2, d3, d4⟩ := hcc.out w1 b1
      clear b1
      dsimp only
      go_wp2_with fail
      refine (KS.out w1 B1.out).mono ?_
      rintro e w2 ⟨rfl, b2⟩
      have C2 := hide (C1.out.trans (b2.mono C1.out.size))
      obtain ⟨g, hg⟩ : ∃ g, g = w2.heap.size := ⟨_, rfl⟩
      obtain ⟨W6, hW6⟩ : ∃ W6, w2.alloc (.cells #[.slice none 0 0, .slice none 0 0] 91) = W6 := ⟨_, rfl⟩
      have r6 : W6.heap[g]? = some (.cells #[.slice none 0 0, .slice none 0 0] 91 (0, 0)) := by rw [← hW6, hg]; exact heap_alloc_new w2 _
      have z6 : W6.heap.size = g + 1 := by rw [← hW6, hg]; simp
      have G6 : StG W6 W6 g [] [] := ⟨_, _, ⟨r6, Nat.lt_succ_self _, World.ownsRow_nil _ _ _ _, World.ownsRow_nil _ _ _ _, .inl rfl, Nat.le_of_eq z6.symm⟩, Below.refl _ _⟩
      have B6 : Below W.heap.size W W6 := by rw [← hW6]; exact C2.out.alloc C2.out.size _
      have hWg : W.heap.size ≤ g := by rw [hg]; exact C2.out.size
      have HBG := hide (fun (wr : World) (its : List VItem) (ops : List (Int × Int)) (G : StG W6 wr g its ops) => (⟨B6.trans (G.bel.mono hWg), HB.out.trans ((B6.trans (G.bel.mono hWg)).mono HB.out.size)⟩ : Below W.heap.size W wr ∧ Below w.heap.size w wr))
      have HG6 := hide G6
      clear b2 r6 z6 G6 B6 hWg
      dsimp only
      go_wp2_with fail
      rw [← hg]
      refine (stNum HG6.out (by simp) (by simp) 1 q HN.out.1).mono ?_
      rintro e w7 ⟨rfl, G7, -⟩
      have HG7 := hide G7
      obtain ⟨e0, e1, e2, e3, e4⟩ := hcc.out w7 (HBG.out _ _ _ G7).1
      clear G7 d0 d1 d2 d3 d4 hW6 hg
      dsimp only
      go_wp2_with fail
      refine (KF.out w7 (HBG.out _ _ _ HG7.out).2).mono ?_
      rintro e w8 ⟨rfl, b8⟩
      have G8 := stBelow HG7.out b8
      have HG8 := hide G8
      clear G8 b8 e0 e1 e2 e3 e4
      dsimp only
      go_wp2_with fail
      refine (stNum HG8.out (by simp) (by simp) 1 F HN.out.2.1).mono ?_
      rintro e w9 ⟨rfl, G9, -⟩
      have HG9 := hide G9
      obtain ⟨e0, e1, e2, e3, e4⟩ := hcc.out w9 (HBG.out _ _ _ G9).1
      clear G9
      dsimp only
      go_wp2_with fail
      refine (stNum HG9.out (by simp) (by simp) 2 pn HN.out.2.2.1).mono ?_
      rintro e w10 ⟨rfl, G10, -⟩
      have HG10 := hide G10
      obtain ⟨d0, d1, d2, d3, d4⟩ := hcc.out w10 (HBG.out _ _ _ G10).1
      clear G10 e0 e1 e2 e3 e4
      dsimp only
      go_wp2_with fail
      refine (stNum HG10.out (by simp) (by simp) 3 vn HN.out.2.2.2).mono ?_
      rintro e w11 ⟨rfl, G11, -⟩
      have HG11 := hide G11
      clear G11 d0 d1 d2 d3 d4
      dsimp only
      go_wp2_with fail
      refine (stNum HG11.out (by simp) (by simp) 1 0 (by decide)).mono ?_
      rintro e w12 ⟨rfl, G12, -⟩
      have HG12 : Hid (StG W6 w12 g (itsG q F pn vn (l.take 0)) (opsG (l.take 0))) := hide G12
      obtain ⟨d0, d1, d2, d3, d4⟩ := hcc.out w12 (HBG.out _ _ _ G12).1
      clear G12
      dsimp only
      go_wp2
      go_loopw [7, 32] (fun _ i wr => ∃ (j : Nat), j ≤ l.length ∧ i = .int .i64 (j : Int) ∧ Hid (StG W6 wr g (itsG q F pn vn (l.take j)) (opsG (l.take j))))
        (fun _ i _ => l.length - (intOf i).toNat)
      case atStart => exact ⟨0, by omega, rfl, HG12⟩
      case round =>
        obtain ⟨j, hj, rfl, hG⟩ := hrel
        have hjb : j ≤ 63 := by have := HL63.out; omega
        by_cases hlt : j < l.length
        · obtain ⟨bb, off, rfl, hbb, hc⟩ := HRG.out (by omega)
          obtain ⟨c0', c1', c2'⟩ := hc j hlt
          have bw := (HBG.out _ _ _ hG.out).2
          have x0 := (bw.cell (p := ⟨bb, off + j * 3, none⟩) hbb).trans c0'
          have x1 := (bw.cell (p := ⟨bb, off + j * 3 + 1, none⟩) hbb).trans c1'
          have x2 := (bw.cell (p := ⟨bb, off + j * 3 + 2, none⟩) hbb).trans c2'
          have hok := HALL.out l[j] (List.getElem_mem hlt)
          unfold okG at hok
          simp only [Bool.and_eq_true] at hok
          obtain ⟨hk1, hk2, -, hk4⟩ := hok
          have hn124 : l[j].d.length ≤ 124 := by simpa using hk4
          clear hk4
          have hsi := itsG_snoc q F pn vn (l.take j) l[j]
          have hso := opsG_snoc (l.take j) l[j]
          rw [← List.take_succ_eq_append_getElem hlt] at hsi hso
          obtain ⟨cn, hcn, hc2⟩ := upG_nat hk1
          obtain ⟨tn, htn, ht2⟩ := upG_nat hk2
          rw [hcn] at x0 hsi
          rw [htn] at x1 hsi
          simp only [Int.toNat_natCast] at hsi
          obtain ⟨d, hd⟩ : ∃ d, d = l[j].d := ⟨_, rfl⟩
          obtain ⟨oa, hoa⟩ : ∃ n, n = l[j].a := ⟨_, rfl⟩
          obtain ⟨okk, hokk⟩ : ∃ n, n = l[j].k := ⟨_, rfl⟩
          rw [← hd, ← hoa, ← hokk] at x2 hsi
          rw [← hd] at hso
          obtain ⟨n, hn⟩ : ∃ n, n = d.length := ⟨_, rfl⟩
          obtain ⟨m4, hm4⟩ : ∃ m, m = n / 4 := ⟨_, rfl⟩
          rw [← hd, ← hn] at hn124
          rw [← hn] at x2 hsi hso
          rw [← hm4] at hsi
          have e4 : (n : Int) / 4 = (m4 : Int) := by omega
          have e4t : (n : Int).tdiv 4 = (m4 : Int) := by rw [Int.tdiv_eq_ediv_of_nonneg (by omega)]; exact e4
          have hl1 : (itsG q F pn vn (l.take j)).length ≤ 300 := by rw [len_itsG, List.length_take]; omega
          have hl2 : (opsG (l.take j)).length ≤ 300 := by rw [len_opsG, List.length_take]; omega
          obtain ⟨its, hits⟩ : ∃ x, x = itsG q F pn vn (l.take j) := ⟨_, rfl⟩
          obtain ⟨ops, hops⟩ : ∃ x, x = opsG (l.take j) := ⟨_, rfl⟩
          rw [← hits] at hG hl1 hsi
          rw [← hops] at hG hl2 hso
          have HM63 : Hid (m4 ≤ 31) := hide (by omega)
          clear hn124
          have hl3 : d.length ≤ 124 ∨ True := .inr trivial
          have hw4 : IntKind.i64.wrap (m4 : Int) = (m4 : Int) ∨ True := .inr trivial
          have HSI := hide hsi
          have HSO := hide hso
          have HLL := hide (And.intro hl1 hl2)
          have HCT : Hid (cn < 9223372036854775808 ∧ tn < 9223372036854775808) := hide (by omega)
          have hj1 : (j : Int) < (l.length : Int) := by omega
          have hj0 : (0 : Int) ≤ (j : Int) := by omega
          obtain ⟨Ga, fa⟩ := stAlloc hG.out (.cells #[.int .i64 (cn : Int), .int .i64 (tn : Int), .slice oa n okk] 68)
          have ra := heap_alloc_new wr (.cells #[.int .i64 (cn : Int), .int .i64 (tn : Int), .slice oa n okk] 68)
          obtain ⟨kb, hkb⟩ : ∃ k, k = wr.heap.size := ⟨_, rfl⟩
          obtain ⟨w13, hw13⟩ : ∃ w13, wr.alloc (.cells #[.int .i64 (cn : Int), .int .i64 (tn : Int), .slice oa n okk] 68) = w13 := ⟨_, rfl⟩
          rw [hw13] at Ga fa ra
          rw [← hkb] at fa ra
          have HGa := hide Ga
          have Hfa := hide fa
          have CB := hide (fun (W1 : World) (r : W1.heap[kb]? = some (.cells #[.int .i64 (cn : Int), .int .i64 (tn : Int), .slice oa n okk] 68 (0, 0))) => (⟨(cell_of_row W1 kb 0 _ _ (0, 0) r).trans rfl, (cell_of_row W1 kb 1 _ _ (0, 0) r).trans rfl, (cell_of_row W1 kb 2 _ _ (0, 0) r).trans rfl⟩ : W1.cell? ⟨kb, 0, none⟩ = some (.int .i64 (cn : Int)) ∧ W1.cell? ⟨kb, 1, none⟩ = some (.int .i64 (tn : Int)) ∧ W1.cell? ⟨kb, 2, none⟩ = some (.slice oa n okk)))
          obtain ⟨y0, y1, y2⟩ := CB.out w13 ra
          have Hra := hide ra
          clear c0' c1' c2' hc hbb bw hk1 hk2 hsi hso hcn htn hc2 ht2 hoa hokk hm4 hits hops hl1 hl2 hl3 hw4 hG Ga fa ra hd
          go_wp2_with fail
          (try rw [← hkb])
          (try rw [← hn])
          rw [hw13]
          have HKB := hide hkb
          have HNN := hide hn
          clear hkb hn
          refine (stNumB HGa.out (by have := HLL.out.1; omega) (by have := HLL.out.2; omega) Hfa.out 2 cn HCT.out.1).mono ?_
          rintro e w14 ⟨rfl, G14, r14, f14⟩
          have Hr14 := hide (r14.trans Hra.out)
          obtain ⟨z0, z1, z2⟩ := CB.out w14 Hr14.out
          have HG14 := hide G14
          have Hf14 := hide f14
          clear G14 r14 f14 x0 x1 x2 y0 y1 y2 hw13
          dsimp only
          go_wp2_with fail
          refine (stNumB HG14.out (by have := HLL.out.1; simp; omega) (by have := HLL.out.2; simp; omega) Hf14.out 1 tn HCT.out.2).mono ?_
          rintro e w15 ⟨rfl, G15, r15, f15⟩
          have Hr15 := hide (r15.trans Hr14.out)
          obtain ⟨y0, y1, y2⟩ := CB.out w15 Hr15.out
          have HG15 := hide G15
          have Hf15 := hide f15
          clear G15 r15 f15 z0 z1 z2
          dsimp only
          go_wp2_with fail
          rw [show wrap64 (m4 : Int) = (m4 : Int) from Go.IntWalk.wrap64_in _ (by have := HM63.out; omega)]
          refine (stNumB HG15.out (by have := HLL.out.1; simp; omega) (by have := HLL.out.2; simp; omega) Hf15.out 1 m4 (by have := HM63.out; omega)).mono ?_
          rintro e w16 ⟨rfl, G16, r16, f16⟩
          have Hr16 := hide (r16.trans Hr15.out)
          obtain ⟨z0, z1, z2⟩ := CB.out w16 Hr16.out
          have HG16 := hide G16
          clear G16 r16 f16 y0 y1 y2
          dsimp only
          go_wp2_with fail
          refine (stTake HG16.out (by have := HLL.out.1; simp; omega) (by have := HLL.out.2; simp; omega) oa n okk d).mono ?_
          rintro e w17 ⟨rfl, G17⟩
          rw [← HSI.out, ← HSO.out] at G17
          have HG17 := hide G17
          clear G17 z0 z1 z2
          dsimp only
          go_wp2_with fail
          go_roundw
          case rel => exact ⟨j + 1, by omega, by go_num, HG17⟩
          case measure => simp [intOf]; omega
        · have hjl : j = l.length := by omega
          subst hjl
          rw [List.take_length] at hG
          obtain ⟨e0, e1, e2, e3, e4⟩ := hcc.out wr (HBG.out _ _ _ hG.out).1
          clear hlt
          go_wp2_with fail
          refine (stTake hG.out (by rw [len_itsG]; omega) (by rw [len_opsG]; omega) I D.length k D).mono ?_
          rintro e w13 ⟨rfl, G13⟩
          have b13 := HBG.out _ _ _ G13
          obtain ⟨vv, oo, hL, hb13⟩ := G13
          have ho2 : OwnO w13 (g + 1) oo (opsG l ++ [(1, (D.length : Int))]) := by unfold OwnO; exact hL.o
          obtain ⟨Av, cv, rfl, hrv⟩ := row_reads hL.v
          obtain ⟨Ao, co, rfl, hro, -⟩ := ho2.shape
          have g0 := (cell_of_row w13 g 0 _ _ (0, 0) hL.row).trans rfl
          have g1 := (cell_of_row w13 g 1 _ _ (0, 0) hL.row).trans rfl
          have hc : RdC w13 w13.heap.size (itsG q F pn vn l ++ [(⟨0, .slice I D.length k, D⟩ : VItem)]) := by
            intro it hit
            have hbm : ∀ x ∈ l, Byt w13 w13.heap.size x.a x.d := fun x hx => ((HBB.out x hx).1.below b13.2).more b13.2.size
            rcases List.mem_append.1 hit with hi | hi
            · unfold itsG at hi
              rcases List.mem_append.1 hi with hi | hi
              · have hi2 : ∃ n, it = numIG n := by simp at hi; rcases hi with h | h | h | h | h <;> exact ⟨_, h⟩
                obtain ⟨n, rfl⟩ := hi2
                exact ⟨none, 0, rfl, Byt.nil _ _ _, fun _ => rfl⟩
              · obtain ⟨x, hx, hi⟩ := List.mem_flatMap.1 hi
                unfold itG at hi
                simp only [List.mem_cons, List.not_mem_nil, or_false] at hi
                rcases hi with rfl | rfl | rfl | rfl
                · exact ⟨none, 0, rfl, Byt.nil _ _ _, fun _ => rfl⟩
                · exact ⟨none, 0, rfl, Byt.nil _ _ _, fun _ => rfl⟩
                · exact ⟨none, 0, rfl, Byt.nil _ _ _, fun _ => rfl⟩
                · exact ⟨_, _, rfl, hbm x hx, (HBB.out x hx).2⟩
            · rw [List.mem_singleton] at hi
              subst hi
              exact ⟨_, _, rfl, (HI.out.1.below b13.2).more b13.2.size, HI.out.2⟩
          have C := lay_any w13 Av Ao cv co _ _ hrv hc hro R HRR.out
          obtain ⟨n1, hn1⟩ : ∃ n, n = (itsG q F pn vn l ++ [(⟨0, .slice I D.length k, D⟩ : VItem)]).length := ⟨_, rfl⟩
          obtain ⟨n2, hn2⟩ : ∃ n, n = (opsG l ++ [(1, (D.length : Int))]).length := ⟨_, rfl⟩
          rw [← hn1] at g0
          rw [← hn2] at g1
          rw [← hn1, ← hn2] at C
          (try rw [← hn1] at g1)
          (try rw [← hn2] at g0)
          have HC := hide C
          have hB := hide b13.2
          clear hn1 hn2 hc e0 e1 e2 e3 e4 c0 c1 c2 c3 c4
          clear hrv hro ho2 C hL hb13 b13
          dsimp only
          go_wp2_with fail
          refine HC.out.mono ?_
          rintro e w14 ⟨A7, c7, rfl, hown7, hb7⟩
          have H7 := hide (hown7.base hB.out.size)
          have HB7 := hide (hB.out.trans (hb7.mono hB.out.size))
          clear hown7 hb7
          dsimp only
          go_wp2
          go_ret2
          exact ⟨A7, c7, rfl, H7.out, HB7.out⟩
end Go.Proofs.Ytdlilokmfekndaa
