/-
  The walk of the document's own Of; what is seen as the document has it, and whether two are alike.
-/
import Derived.Test.YtcfckhdohcaffaaPpr
import Derived.Test.YtcfckhdohcaffaaMna
import Derived.Test.YtcfckhdohcaffaaMkx
namespace Go.Proofs.Ytcfckhdohcaffaa
open Go.RowKit
theorem rs_rseen : rowSize Try.prog 57 = some 39 := by kernel_rfl
theorem info_rseen : (Try.prog.info? 57).map (·.size) = some 39 := by kernel_rfl
attribute [local go_sem ↓] exec_span exec_put exec_build heap_alloc_new heap_old heap_alloc_drew
attribute [local go_sem] spanQ_ptr spanC_some heap_of_drew heap_of_drewN rs_arr rs_ad rs_ip rs_rip rs_seg rs_rseg rs_tup rs_seen rs_rseen putAt_ptr putOk_ptr oldOk_some World.setRow_alloc_new setRow_drew
set_option maxRecDepth 100000
set_option linter.unusedVariables false
set_option linter.unusedSimpArgs false

theorem built_noneRSe : Try.prog.built 57 [] = some seZ := by kernel_rfl
theorem built_rseA (v u : Bool) (p s d f n : Int) (b0 b1 b2 b3 b4 b5 b6 b7 b8 b9 b10 b11 b12 b13 b14 b15 c0 c1 c2 c3 c4 c5 c6 c7 c8 c9 c10 c11 c12 c13 c14 c15 : UInt8) : Try.prog.built 57 [(0, .agg (tupL ⟨v, [b0, b1, b2, b3, b4, b5, b6, b7, b8, b9, b10, b11, b12, b13, b14, b15], u, [c0, c1, c2, c3, c4, c5, c6, c7, c8, c9, c10, c11, c12, c13, c14, c15], p, s, d⟩).toArray), (1, .int .i64 f), (2, .int .i64 n)] = some (seL ⟨v, [b0, b1, b2, b3, b4, b5, b6, b7, b8, b9, b10, b11, b12, b13, b14, b15], u, [c0, c1, c2, c3, c4, c5, c6, c7, c8, c9, c10, c11, c12, c13, c14, c15], p, s, d⟩ f n).toArray := by kernel_rfl
theorem built_rseT (t : Tup) (f n : Int) (ls : t.sb.length = 16) (ld : t.db.length = 16) : Try.prog.built 57 [(0, .agg (tupL t).toArray), (1, .int .i64 f), (2, .int .i64 n)] = some (seL t f n).toArray := by
  obtain ⟨v, sb, u, db, p, s, d⟩ := t
  match sb, ls, db, ld with
  | [_, _, _, _, _, _, _, _, _, _, _, _, _, _, _, _], _, [_, _, _, _, _, _, _, _, _, _, _, _, _, _, _, _], _ => exact built_rseA _ _ _ _ _ _ _ _ _ _ _ _ _ _ _ _ _ _ _ _ _ _ _ _ _ _ _ _ _ _ _ _ _ _ _ _ _ _ _

set_option maxHeartbeats 4000000 in
theorem reftof_any (w : World) (B : Nat) (A : Option Addr) (l : List UInt8) (c : Nat) (hlc : l.length ≤ c) (hn : l.length ≤ 140737488351232) (hb : Byt w B A l) (hB : B ≤ w.heap.size) :
    Calls Try.prog 20 #[.slice A l.length c] w fun e w' => SeenS w l e w' := by
  obtain ⟨Z, hZ⟩ : ∃ Z, Z = seZ := ⟨_, rfl⟩
  obtain ⟨W, hW⟩ : ∃ W, w.alloc (.cells (seL tupZn 0 0).toArray 57) = W := ⟨_, rfl⟩
  have r1 : W.heap[w.heap.size]? = some (.cells Z 57 (0, 0)) := by rw [← hW, hZ]; exact heap_alloc_new w _
  have hbW : Below w.heap.size w W := by rw [← hW]; exact (Below.refl _ _).alloc (Nat.le_refl _) _
  have hz : W.heap.size = w.heap.size + 1 := by rw [← hW]; simp
  have hbn := built_noneRSe
  rw [← hZ] at hbn
  have hZs : Z.size = 39 := by rw [hZ]; exact seZ_ok.size
  have hZo : allOne Z = true := by rw [hZ]; exact seZ_ok.one
  have HZE := hide hZ
  have KP := hide (refparseH_any W W.heap.size A l c hlc (by omega) ((hb.below (hbW.mono hB)).more (Nat.le_trans hB hbW.size)) (Nat.le_refl _))
  have HKZ := hide (fun (w1 : World) (b : Below W.heap.size W w1) => ((b.block w.heap.size (by omega)).trans r1 : w1.heap[w.heap.size]? = some (.cells Z 57 (0, 0))))
  have HB := hide hbW
  have HZ := hide hz
  have HN := hide hn
  have HL := hide hlc
  have HW := hide hW
  clear hZ hW hbW hz hb hB
  go_enter Try.func20, Try.ntmps20
  go_upto_region 1 with (fail)
  change Code.wp _ _ _ _ (w.alloc (.cells (seL tupZn 0 0).toArray 57))
  rw [HW.out]
  go_wp2_with fail
  refine KP.out.mono ?_
  rintro e w2 ⟨X2, rfl, b2, he2, hok2⟩
  by_cases hE : pkE l = 0
  · obtain ⟨H, V2, g2, hDl, hsE, hsG, h1, h2, h3, h4, h5⟩ := (hok2 hE).ip
    rw [hE]
    have h2s := V2.size
    have h2o := V2.one
    have h20 := V2.x0
    have hof : Hid (seenE l = segE (pkH l) (pkD l)) := hide (by unfold seenE; rw [if_neg (fun e => e hE)])
    have b3 : Below w2.heap.size w2 (w2.alloc (.cells X2 27)) := (Below.refl _ _).alloc (Nat.le_refl _) _
    have r3 := heap_alloc_new w2 (.cells X2 27)
    have B3 : Hid (Below W.heap.size W (w2.alloc (.cells X2 27))) := hide ((b2.trans (b3.mono b2.size)))
    obtain ⟨G, hG⟩ : ∃ G, G = w2.heap.size := ⟨_, rfl⟩
    have HGG : Hid (W.heap.size ≤ G) := hide (by rw [hG]; exact b2.size)
    have hgb := (g2.1.below b3).more b3.size
    have hz3 : (w2.alloc (.cells X2 27)).heap.size = G + 1 := by rw [hG]; simp
    dsimp only
    go_upto_region 2 with (fail)
    rw [← hG] at r3 ⊢
    generalize w2.alloc (.cells X2 27) = w3 at r3 B3 hgb hz3 ⊢
    have hdl : (pkD l).length ≤ l.length := by unfold pkD; split <;> (rw [List.length_drop]; omega)
    have KS := refparseS_any w3 X2 H V2 (pkD l) hgb hDl (by rw [← hDl]; exact g2.2.1) (by rw [← hDl]; have := HN.out; omega) g2.2.2.1
    have HKS := hide KS
    have HZ3 := hide hz3
    have x1 := V2.src
    have x2 := V2.dst
    have HR3 := hide r3
    clear KS he2 hok2 b2 b3 hgb hz3 hG g2 hdl
    go_wp2_with fail
    refine HKS.out.mono ?_
    rintro e w4 hq
    obtain ⟨Y4, rfl, hYs, hYo, hY0⟩ := hq.val
    obtain ⟨_, e', b4, hne, hok⟩ := hq
    cases e'
    rw [hsE] at hne hok ⊢
    have B4 : Hid (Below W.heap.size W w4) := hide (B3.out.trans (b4.mono B3.out.size))
    have r4 := (b4.block G (by have := HZ3.out; omega)).trans HR3.out
    have b5 : Below w4.heap.size w4 (w4.alloc (.cells Y4 30)) := (Below.refl _ _).alloc (Nat.le_refl _) _
    have r5 := heap_alloc_new w4 (.cells Y4 30)
    have hGn : G < w4.heap.size := (Array.getElem?_eq_some_iff.1 r4).1
    have r5G := (b5.block G hGn).trans r4
    have B5 : Hid (Below W.heap.size W (w4.alloc (.cells Y4 30))) := hide (B4.out.trans (b5.mono B4.out.size))
    have z5 := HKZ.out _ B5.out
    by_cases hE4 : segE (pkH l) (pkD l) = 0
    · obtain ⟨ao, co, ad, cd, V4, -, -⟩ := hok hE4
      rw [hE4]
      have c1 := (V4.cells r5).c1
      have c2 := (V4.cells r5).c2
      have c5 := (V4.cells r5).c5
      have c35 := (V2.cells r5G).c35
      rw [hsG] at c1 c2 c5
      obtain ⟨q1, q2, q3⟩ := gotS_same (pkH l) (pkD l) ao ad co cd
      rw [q1] at c1
      rw [q2] at c2
      rw [q3] at c5
      have ht1 : (seenT l).sb.length = 16 := by show (pkH l).sb.length = 16; rw [← h2]; exact V2.ls
      have ht2 : (seenT l).db.length = 16 := by show (pkH l).db.length = 16; rw [← h4]; exact V2.ld
      have k1 := built_tupT (seenT l) ht1 ht2
      have k2 := built_rseT (seenT l) (seenG l).f (l.length : Int) ht1 ht2
      rw [h1, h2] at x1
      rw [h3, h4] at x2
      rw [h5] at c35
      obtain ⟨S, hS⟩ : ∃ S, S = (adL (pkH l).sv (pkH l).sb).toArray := ⟨_, rfl⟩
      obtain ⟨T, hT⟩ : ∃ S, S = (adL (pkH l).dv (pkH l).db).toArray := ⟨_, rfl⟩
      rw [← hS] at x1
      rw [← hT] at x2
      have k1' : Try.prog.built 52 [(0, .agg S), (1, .agg T), (2, .int .i64 (pkH l).p), (3, .int .i64 (gotS (pkH l) (pkD l) none 0 none 0).a), (4, .int .i64 (gotS (pkH l) (pkD l) none 0 none 0).b)] = some (tupL (seenT l)).toArray := by rw [hS, hT]; exact k1
      have k2' : Try.prog.built 57 [(0, .agg (tupL (seenT l)).toArray), (1, .int .i64 (gotS (pkH l) (pkD l) none 0 none 0).f), (2, .int .i64 (l.length : Int))] = some (seL (seenT l) (seenG l).f (l.length : Int)).toArray := k2
      obtain ⟨XT, hXT⟩ : ∃ XT, XT = (tupL (seenT l)).toArray := ⟨_, rfl⟩
      obtain ⟨XS, hXS⟩ : ∃ XS, XS = (seL (seenT l) (seenG l).f (l.length : Int)).toArray := ⟨_, rfl⟩
      rw [← hXT] at k1' k2'
      rw [← hXS] at k2'
      have VT : TuV XT (seenT l) := ⟨hXT, ht1, ht2⟩
      have VS : SeV XS (seenT l) (seenG l).f (l.length : Int) := ⟨hXS, ht1, ht2⟩
      have t1 := VT.size
      have t2 := VT.one
      have t3 := VT.x0
      have s1 := VS.size
      have s2 := VS.one
      have HVS := hide VS
      have hE0 : Hid (seenE l = 0) := hide (by rw [hof.out]; exact hE4)
      obtain ⟨fl, hfl⟩ : ∃ fl, fl = (gotS (pkH l) (pkD l) none 0 none 0).f := ⟨_, rfl⟩
      obtain ⟨pa, hpa⟩ : ∃ fl, fl = (gotS (pkH l) (pkD l) none 0 none 0).a := ⟨_, rfl⟩
      obtain ⟨pb, hpb⟩ : ∃ fl, fl = (gotS (pkH l) (pkD l) none 0 none 0).b := ⟨_, rfl⟩
      obtain ⟨pp, hpp⟩ : ∃ fl, fl = (pkH l).p := ⟨_, rfl⟩
      rw [← hfl] at c5 k2'
      rw [← hpa] at c1 k1'
      rw [← hpb] at c2 k1'
      rw [← hpp] at c35 k1'
      obtain ⟨W5, hW5⟩ : ∃ W5, w4.alloc (.cells Y4 30) = W5 := ⟨_, rfl⟩
      have hg4 : w4.heap.size < W5.heap.size := by rw [← hW5]; simp
      dsimp only
      go_upto_region 5 with (fail)
      rw [hW5] at r5 r5G B5 z5 c1 c2 c5 c35
      have l1 : LtN w4.heap.size W5.heap.size := hg4
      have l2 : LtN G W5.heap.size := (Array.getElem?_eq_some_iff.1 r5G).1
      have l3 : LtN w.heap.size W5.heap.size := (Array.getElem?_eq_some_iff.1 z5).1
      have B6 : Hid (Below W.heap.size W (W5.alloc (.cells XT 52))) := hide (B5.out.alloc B5.out.size _)
      have c5' := (World.cell?_alloc_lt W5 (.cells XT 52) ⟨w4.heap.size, 5, none⟩ hg4).trans c5
      clear hXT hXS VT VS hS hT k1 k2 hfl hpa hpb hpp hok hne V4 q1 q2 q3 hGn hg4 hW5 b4 b5 r4 HKS
      go_wp2
      have z6 : (W5.alloc (.cells XT 52)).heap[w.heap.size]? = some (.cells Z 57 (0, 0)) := (heap_old _ l3).trans z5
      have hrow := setRow_heap (W5.alloc (.cells XT 52)) w.heap.size Z XS _ _ z6
      refine bodyPost_ret (results_cell_tmp (fn := Try.f20) Try.results20 _ _ w.heap.size 57 XS (0, 0) _ rfl hrow Try.underlying57 rfl (by rw [s1]; exact info_rseen)) rfl ?_
      exact ⟨XS, by rw [hE0.out]; rfl, below_setRow (HB.out.trans (B6.out.mono HB.out.size)) (Nat.le_refl _) _, fun h => absurd hE0.out h, fun _ => HVS.out⟩
    · have hEb : (segE (pkH l) (pkD l) != 0) = true := by simpa using hE4
      have hE0 : Hid (seenE l = segE (pkH l) (pkD l)) := hof
      have hEn : Hid (segE (pkH l) (pkD l) ≠ 0) := hide hE4
      obtain ⟨E, hEE⟩ : ∃ E, E = segE (pkH l) (pkD l) := ⟨_, rfl⟩
      rw [← hEE] at hEb hE0 hEn ⊢
      clear hok hne hE4 hEE r5G r4 hGn x1 x2
      dsimp only
      go_wp2
      have hrow := setRow_heap _ w.heap.size Z Z _ _ z5
      refine bodyPost_ret (results_cell_tmp (fn := Try.f20) Try.results20 _ _ w.heap.size 57 Z (0, 0) _ rfl hrow Try.underlying57 rfl (by rw [hZs]; exact info_rseen)) rfl ?_
      exact ⟨Z, by rw [hE0.out]; rfl, below_setRow (HB.out.trans (B5.out.mono HB.out.size)) (Nat.le_refl _) _, fun _ => HZE.out, fun h => absurd (hE0.out.symm.trans h) hEn.out⟩
  · have hX := he2 hE
    have V2 : IpV X2 (nIp 0 0 0 0 false) := by rw [hX]; exact nIp_ok _ _ _ _ _
    have h2s := V2.size
    have h2o := V2.one
    have hEb : (pkE l != 0) = true := by simpa using hE
    have hE0 : Hid (seenE l = pkE l) := hide (by unfold seenE; rw [if_pos hE])
    have hEn : Hid (pkE l ≠ 0) := hide hE
    obtain ⟨E, hEE⟩ : ∃ E, E = pkE l := ⟨_, rfl⟩
    rw [← hEE] at hEb hE0 hEn ⊢
    have b3 : Below w2.heap.size w2 (w2.alloc (.cells X2 27)) := (Below.refl _ _).alloc (Nat.le_refl _) _
    have B3 : Hid (Below W.heap.size W (w2.alloc (.cells X2 27))) := hide ((b2.trans (b3.mono b2.size)))
    have z3 := HKZ.out _ B3.out
    clear he2 hok2 hX V2 hE hEE b2 b3
    dsimp only
    go_wp2
    have hrow := setRow_heap _ w.heap.size Z Z _ _ z3
    refine bodyPost_ret (results_cell_tmp (fn := Try.f20) Try.results20 _ _ w.heap.size 57 Z (0, 0) _ rfl hrow Try.underlying57 rfl (by rw [hZs]; exact info_rseen)) rfl ?_
    exact ⟨Z, by rw [hE0.out]; rfl, below_setRow (HB.out.trans (B3.out.mono HB.out.size)) (Nat.le_refl _) _, fun _ => HZE.out, fun h => absurd (hE0.out.symm.trans h) hEn.out⟩
end Go.Proofs.Ytcfckhdohcaffaa
