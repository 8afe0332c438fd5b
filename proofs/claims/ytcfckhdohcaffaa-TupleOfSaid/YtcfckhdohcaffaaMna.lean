import Derived.Test.YtcfckhdohcaffaaMkn
import Derived.Test.YtcfckhdohcaffaaKm
import Derived.Test.YtcfckhdohcaffaaTup
import Derived.Test.YtcfckhdohcaffaaJb
import Derived.Test.YtcfckhdohcaffaaMku
section
/-
  The walk of tuple.Of: what is seen of any bytes as a packet.
-/
namespace Go.Proofs.Ytcfckhdohcaffaa
open Go.RowKit
theorem rs_seen : rowSize Try.prog 54 = some 39 := by kernel_rfl
theorem info_seen : (Try.prog.info? 54).map (·.size) = some 39 := by kernel_rfl
attribute [local go_sem ↓] exec_span exec_put exec_build heap_alloc_new heap_old heap_alloc_drew
attribute [local go_sem] spanQ_ptr spanC_some heap_of_drew heap_of_drewN rs_arr rs_ad rs_ip rs_rip rs_seg rs_rseg rs_tup rs_seen putAt_ptr putOk_ptr oldOk_some World.setRow_alloc_new setRow_drew
set_option maxRecDepth 100000
set_option linter.unusedVariables false
set_option linter.unusedSimpArgs false

/-- what is seen: a tuple, flags, how many bytes. -/
def seL (t : Tup) (f n : Int) : List Value := tupL t ++ [.int .i64 f, .int .i64 n]
def tupZn : Tup := ⟨false, List.replicate 16 0, false, List.replicate 16 0, 0, 0, 0⟩
structure SeV (X : Array Value) (t : Tup) (f n : Int) : Prop where
  eq : X = (seL t f n).toArray
  ls : t.sb.length = 16
  ld : t.db.length = 16
theorem len_tupL {t : Tup} (ls : t.sb.length = 16) (ld : t.db.length = 16) : (tupL t).length = 37 := by simp [tupL, length_adL ls, length_adL ld]
theorem SeV.size {X : Array Value} {t : Tup} {f n : Int} (h : SeV X t f n) : X.size = 39 := by rw [h.eq]; simp [seL, len_tupL h.ls h.ld]
theorem SeV.one {X : Array Value} {t : Tup} {f n : Int} (h : SeV X t f n) : allOne X = true := by
  rw [h.eq]
  refine all_oneCell_toArray fun u hu => ?_
  rcases List.mem_append.1 hu with hu | hu
  · have h1 : allOne (tupL t).toArray = true := TuV.one (t := t) ⟨rfl, h.ls, h.ld⟩
    unfold allOne at h1
    rw [Array.all_eq_true'] at h1
    exact h1 u (by simpa using hu)
  · simp at hu
    rcases hu with rfl | rfl <;> rfl
theorem SeV.x0 {X : Array Value} {t : Tup} {f n : Int} (h : SeV X t f n) : X.extract 0 39 = X := by rw [← h.size]; simp
theorem SeV.tup {X : Array Value} {t : Tup} {f n : Int} (h : SeV X t f n) : X.extract 0 37 = (tupL t).toArray := by
  rw [h.eq, List.extract_toArray]
  congr 1
  simp only [seL, List.extract_eq_take_drop, List.drop_zero]
  rw [List.take_append_of_le_length (by rw [len_tupL h.ls h.ld]; decide), List.take_of_length_le (by rw [len_tupL h.ls h.ld]; decide)]
theorem SeV.cells {X : Array Value} {t : Tup} {f n : Int} (h : SeV X t f n) {w : World} {g : Nat} {ty : TypeId} (hg : w.heap[g]? = some (.cells X ty (0, 0))) : w.cell? ⟨g, 37, none⟩ = some (.int .i64 f) ∧ w.cell? ⟨g, 38, none⟩ = some (.int .i64 n) := by
  have e : ∀ j, w.cell? ⟨g, j, none⟩ = X[j]? := fun j => cell_of_row w g j X ty (0, 0) hg
  rw [e, e, h.eq]
  simp only [List.getElem?_toArray, seL]
  rw [List.getElem?_append_right (by rw [len_tupL h.ls h.ld]; decide), List.getElem?_append_right (by rw [len_tupL h.ls h.ld]; decide), len_tupL h.ls h.ld]
  exact ⟨rfl, rfl⟩
def seZ : Array Value := (seL tupZn 0 0).toArray
theorem seZ_ok : SeV seZ tupZn 0 0 := ⟨rfl, by simp [tupZn], by simp [tupZn]⟩
theorem built_noneSe : Try.prog.built 54 [] = some seZ := by kernel_rfl
theorem built_tupA (v u : Bool) (p s d : Int) (b0 b1 b2 b3 b4 b5 b6 b7 b8 b9 b10 b11 b12 b13 b14 b15 c0 c1 c2 c3 c4 c5 c6 c7 c8 c9 c10 c11 c12 c13 c14 c15 : UInt8) : Try.prog.built 52 [(0, .agg (adL v [b0, b1, b2, b3, b4, b5, b6, b7, b8, b9, b10, b11, b12, b13, b14, b15]).toArray), (1, .agg (adL u [c0, c1, c2, c3, c4, c5, c6, c7, c8, c9, c10, c11, c12, c13, c14, c15]).toArray), (2, .int .i64 p), (3, .int .i64 s), (4, .int .i64 d)] = some (tupL ⟨v, [b0, b1, b2, b3, b4, b5, b6, b7, b8, b9, b10, b11, b12, b13, b14, b15], u, [c0, c1, c2, c3, c4, c5, c6, c7, c8, c9, c10, c11, c12, c13, c14, c15], p, s, d⟩).toArray := by kernel_rfl
theorem built_tupT (t : Tup) (ls : t.sb.length = 16) (ld : t.db.length = 16) : Try.prog.built 52 [(0, .agg (adL t.sv t.sb).toArray), (1, .agg (adL t.dv t.db).toArray), (2, .int .i64 t.p), (3, .int .i64 t.s), (4, .int .i64 t.d)] = some (tupL t).toArray := by
  obtain ⟨v, sb, u, db, p, s, d⟩ := t
  match sb, ls, db, ld with
  | [_, _, _, _, _, _, _, _, _, _, _, _, _, _, _, _], _, [_, _, _, _, _, _, _, _, _, _, _, _, _, _, _, _], _ => exact built_tupA _ _ _ _ _ _ _ _ _ _ _ _ _ _ _ _ _ _ _ _ _ _ _ _ _ _ _ _ _ _ _ _ _ _ _ _ _
theorem built_seA (v u : Bool) (p s d f n : Int) (b0 b1 b2 b3 b4 b5 b6 b7 b8 b9 b10 b11 b12 b13 b14 b15 c0 c1 c2 c3 c4 c5 c6 c7 c8 c9 c10 c11 c12 c13 c14 c15 : UInt8) : Try.prog.built 54 [(0, .agg (tupL ⟨v, [b0, b1, b2, b3, b4, b5, b6, b7, b8, b9, b10, b11, b12, b13, b14, b15], u, [c0, c1, c2, c3, c4, c5, c6, c7, c8, c9, c10, c11, c12, c13, c14, c15], p, s, d⟩).toArray), (1, .int .i64 f), (2, .int .i64 n)] = some (seL ⟨v, [b0, b1, b2, b3, b4, b5, b6, b7, b8, b9, b10, b11, b12, b13, b14, b15], u, [c0, c1, c2, c3, c4, c5, c6, c7, c8, c9, c10, c11, c12, c13, c14, c15], p, s, d⟩ f n).toArray := by kernel_rfl
theorem built_seT (t : Tup) (f n : Int) (ls : t.sb.length = 16) (ld : t.db.length = 16) : Try.prog.built 54 [(0, .agg (tupL t).toArray), (1, .int .i64 f), (2, .int .i64 n)] = some (seL t f n).toArray := by
  obtain ⟨v, sb, u, db, p, s, d⟩ := t
  match sb, ls, db, ld with
  | [_, _, _, _, _, _, _, _, _, _, _, _, _, _, _, _], _, [_, _, _, _, _, _, _, _, _, _, _, _, _, _, _, _], _ => exact built_seA _ _ _ _ _ _ _ _ _ _ _ _ _ _ _ _ _ _ _ _ _ _ _ _ _ _ _ _ _ _ _ _ _ _ _ _ _ _ _

/-- the packet that bytes are, without its lists; its data. -/
def pkH (l : List UInt8) : Ip := if (l.getD 0 0).toNat / 16 = 4 then p4H l none 0 none 0 else p6H l none 0
def pkD (l : List UInt8) : List UInt8 := if (l.getD 0 0).toNat / 16 = 4 then l.drop (4 * (nmB l 0 1 % 16)) else l.drop 40
def seenE (l : List UInt8) : Int := if pkE l ≠ 0 then pkE l else segE (pkH l) (pkD l)
def seenG (l : List UInt8) : Sg := gotS (pkH l) (pkD l) none 0 none 0
def seenT (l : List UInt8) : Tup := ⟨(pkH l).sv, (pkH l).sb, (pkH l).dv, (pkH l).db, (pkH l).p, (seenG l).a, (seenG l).b⟩
theorem gotS_same (h : Ip) (D : List UInt8) (ao ad : Option Addr) (co cd : Nat) : (gotS h D ao co ad cd).a = (gotS h D none 0 none 0).a ∧ (gotS h D ao co ad cd).b = (gotS h D none 0 none 0).b ∧ (gotS h D ao co ad cd).f = (gotS h D none 0 none 0).f := by
  unfold gotS
  split <;> exact ⟨rfl, rfl, rfl⟩
theorem PktA.ip {w w' : World} {l : List UInt8} {X : Array Value} (h : PktA w w' l X) : ∃ H, IpV X H ∧ Gave w w' H.ad H.cd (pkD l) ∧ (pkD l).length = H.nd ∧ (∀ D, segE H D = segE (pkH l) D) ∧ (∀ D a b c d, gotS H D a b c d = gotS (pkH l) D a b c d) ∧ H.sv = (pkH l).sv ∧ H.sb = (pkH l).sb ∧ H.dv = (pkH l).dv ∧ H.db = (pkH l).db ∧ H.p = (pkH l).p := by
  rcases h with ⟨h4, -, ao, co, ad, cd, V, -, g⟩ | ⟨h6, -, ad, cd, V, g⟩
  · have e1 : pkH l = p4H l none 0 none 0 := by unfold pkH; rw [if_pos h4]
    have e2 : pkD l = l.drop (4 * (nmB l 0 1 % 16)) := by unfold pkD; rw [if_pos h4]
    rw [e1, e2]
    exact ⟨_, V, g, by rw [List.length_drop]; rfl, fun _ => rfl, fun _ _ _ _ _ => rfl, rfl, rfl, rfl, rfl, rfl⟩
  · have h4 : ¬ (l.getD 0 0).toNat / 16 = 4 := by omega
    have e1 : pkH l = p6H l none 0 := by unfold pkH; rw [if_neg h4]
    have e2 : pkD l = l.drop 40 := by unfold pkD; rw [if_neg h4]
    rw [e1, e2]
    exact ⟨_, V, g, by rw [List.length_drop]; rfl, fun _ => rfl, fun _ _ _ _ _ => rfl, rfl, rfl, rfl, rfl, rfl⟩
def SeenS (w : World) (l : List UInt8) (e : Ending) (w' : World) : Prop := ∃ X, e = .returned (.tuple #[.agg X, .int .i64 (seenE l)]) ∧ Below w.heap.size w w' ∧ (seenE l ≠ 0 → X = seZ) ∧ (seenE l = 0 → SeV X (seenT l) (seenG l).f (l.length : Int))

set_option maxHeartbeats 4000000 in
theorem tof_any (w : World) (B : Nat) (A : Option Addr) (l : List UInt8) (c : Nat) (hlc : l.length ≤ c) (hn : l.length ≤ 140737488355328) (hb : Byt w B A l) (hB : B ≤ w.heap.size) :
    Calls Try.prog 19 #[.slice A l.length c] w fun e w' => SeenS w l e w' := by
  obtain ⟨Z, hZ⟩ : ∃ Z, Z = seZ := ⟨_, rfl⟩
  obtain ⟨W, hW⟩ : ∃ W, w.alloc (.cells (seL tupZn 0 0).toArray 54) = W := ⟨_, rfl⟩
  have r1 : W.heap[w.heap.size]? = some (.cells Z 54 (0, 0)) := by rw [← hW, hZ]; exact heap_alloc_new w _
  have hbW : Below w.heap.size w W := by rw [← hW]; exact (Below.refl _ _).alloc (Nat.le_refl _) _
  have hz : W.heap.size = w.heap.size + 1 := by rw [← hW]; simp
  have hbn := built_noneSe
  rw [← hZ] at hbn
  have hZs : Z.size = 39 := by rw [hZ]; exact seZ_ok.size
  have hZo : allOne Z = true := by rw [hZ]; exact seZ_ok.one
  have HZE := hide hZ
  have KP := hide (parse_any W W.heap.size A l c hlc (by omega) ((hb.below (hbW.mono hB)).more (Nat.le_trans hB hbW.size)) (Nat.le_refl _))
  have HKZ := hide (fun (w1 : World) (b : Below W.heap.size W w1) => ((b.block w.heap.size (by omega)).trans r1 : w1.heap[w.heap.size]? = some (.cells Z 54 (0, 0))))
  have HB := hide hbW
  have HZ := hide hz
  have HN := hide hn
  have HL := hide hlc
  have HW := hide hW
  clear hZ hW hbW hz hb hB
  go_enter Try.func19, Try.ntmps19
  go_upto_region 1 with (fail)
  change Code.wp _ _ _ _ (w.alloc (.cells (seL tupZn 0 0).toArray 54))
  rw [HW.out]
  go_wp2_with fail
  refine KP.out.mono ?_
  rintro e w2 ⟨X2, rfl, b2, he2, hok2⟩
  by_cases hE : pkE l = 0
  · obtain ⟨H, V2, g2, hDl, hsE, hsG, h1, h2, h3, h4, h5⟩ := (hok2 hE).ip
    rw [hE]
    have h2s := V2.size
    have h2o := V2.one
    have h20 := V2.x0
    have hof : Hid (seenE l = segE (pkH l) (pkD l)) := hide (by unfold seenE; rw [if_neg (fun e => e hE)])
    have b3 : Below w2.heap.size w2 (w2.alloc (.cells X2 36)) := (Below.refl _ _).alloc (Nat.le_refl _) _
    have r3 := heap_alloc_new w2 (.cells X2 36)
    have B3 : Hid (Below W.heap.size W (w2.alloc (.cells X2 36))) := hide ((b2.trans (b3.mono b2.size)))
    obtain ⟨G, hG⟩ : ∃ G, G = w2.heap.size := ⟨_, rfl⟩
    have HGG : Hid (W.heap.size ≤ G) := hide (by rw [hG]; exact b2.size)
    have hgb := (g2.1.below b3).more b3.size
    have hz3 : (w2.alloc (.cells X2 36)).heap.size = G + 1 := by rw [hG]; simp
    dsimp only
    go_upto_region 2 with (fail)
    rw [← hG] at r3 ⊢
    generalize w2.alloc (.cells X2 36) = w3 at r3 B3 hgb hz3 ⊢
    have hdl : (pkD l).length ≤ l.length := by unfold pkD; split <;> (rw [List.length_drop]; omega)
    have KS := parseS_any w3 X2 H V2 (pkD l) hgb hDl (by rw [← hDl]; exact g2.2.1) (by rw [← hDl]; have := HN.out; omega)
    have HKS := hide KS
    have HZ3 := hide hz3
    have x1 := V2.src
    have x2 := V2.dst
    have HR3 := hide r3
    clear KS he2 hok2 b2 b3 hgb hz3 hG g2 hdl
    go_wp2_with fail
    refine HKS.out.mono ?_
    rintro e w4 hq
    obtain ⟨Y4, rfl, hYs, hYo, hY0⟩ := hq.val
    obtain ⟨_, e', b4, hne, hok⟩ := hq
    cases e'
    rw [hsE] at hne hok ⊢
    have B4 : Hid (Below W.heap.size W w4) := hide (B3.out.trans (b4.mono B3.out.size))
    have r4 := (b4.block G (by have := HZ3.out; omega)).trans HR3.out
    have b5 : Below w4.heap.size w4 (w4.alloc (.cells Y4 31)) := (Below.refl _ _).alloc (Nat.le_refl _) _
    have r5 := heap_alloc_new w4 (.cells Y4 31)
    have hGn : G < w4.heap.size := (Array.getElem?_eq_some_iff.1 r4).1
    have r5G := (b5.block G hGn).trans r4
    have B5 : Hid (Below W.heap.size W (w4.alloc (.cells Y4 31))) := hide (B4.out.trans (b5.mono B4.out.size))
    have z5 := HKZ.out _ B5.out
    by_cases hE4 : segE (pkH l) (pkD l) = 0
    · obtain ⟨ao, co, ad, cd, V4, -, -⟩ := hok hE4
      rw [hE4]
      have c1 := (V4.cells r5).c1
      have c2 := (V4.cells r5).c2
      have c5 := (V4.cells r5).c5
      have c35 := (V2.cells r5G).c35
      rw [hsG] at c1 c2 c5
      obtain ⟨q1, q2, q3⟩ := gotS_same (pkH l) (pkD l) ao ad co cd
      rw [q1] at c1
      rw [q2] at c2
      rw [q3] at c5
      have ht1 : (seenT l).sb.length = 16 := by show (pkH l).sb.length = 16; rw [← h2]; exact V2.ls
      have ht2 : (seenT l).db.length = 16 := by show (pkH l).db.length = 16; rw [← h4]; exact V2.ld
      have k1 := built_tupT (seenT l) ht1 ht2
      have k2 := built_seT (seenT l) (seenG l).f (l.length : Int) ht1 ht2
      rw [h1, h2] at x1
      rw [h3, h4] at x2
      rw [h5] at c35
      obtain ⟨S, hS⟩ : ∃ S, S = (adL (pkH l).sv (pkH l).sb).toArray := ⟨_, rfl⟩
      obtain ⟨T, hT⟩ : ∃ S, S = (adL (pkH l).dv (pkH l).db).toArray := ⟨_, rfl⟩
      rw [← hS] at x1
      rw [← hT] at x2
      have k1' : Try.prog.built 52 [(0, .agg S), (1, .agg T), (2, .int .i64 (pkH l).p), (3, .int .i64 (gotS (pkH l) (pkD l) none 0 none 0).a), (4, .int .i64 (gotS (pkH l) (pkD l) none 0 none 0).b)] = some (tupL (seenT l)).toArray := by rw [hS, hT]; exact k1
      have k2' : Try.prog.built 54 [(0, .agg (tupL (seenT l)).toArray), (1, .int .i64 (gotS (pkH l) (pkD l) none 0 none 0).f), (2, .int .i64 (l.length : Int))] = some (seL (seenT l) (seenG l).f (l.length : Int)).toArray := k2
      obtain ⟨XT, hXT⟩ : ∃ XT, XT = (tupL (seenT l)).toArray := ⟨_, rfl⟩
      obtain ⟨XS, hXS⟩ : ∃ XS, XS = (seL (seenT l) (seenG l).f (l.length : Int)).toArray := ⟨_, rfl⟩
      rw [← hXT] at k1' k2'
      rw [← hXS] at k2'
      have VT : TuV XT (seenT l) := ⟨hXT, ht1, ht2⟩
      have VS : SeV XS (seenT l) (seenG l).f (l.length : Int) := ⟨hXS, ht1, ht2⟩
      have t1 := VT.size
      have t2 := VT.one
      have t3 := VT.x0
      have s1 := VS.size
      have s2 := VS.one
      have HVS := hide VS
      have hE0 : Hid (seenE l = 0) := hide (by rw [hof.out]; exact hE4)
      obtain ⟨fl, hfl⟩ : ∃ fl, fl = (gotS (pkH l) (pkD l) none 0 none 0).f := ⟨_, rfl⟩
      obtain ⟨pa, hpa⟩ : ∃ fl, fl = (gotS (pkH l) (pkD l) none 0 none 0).a := ⟨_, rfl⟩
      obtain ⟨pb, hpb⟩ : ∃ fl, fl = (gotS (pkH l) (pkD l) none 0 none 0).b := ⟨_, rfl⟩
      obtain ⟨pp, hpp⟩ : ∃ fl, fl = (pkH l).p := ⟨_, rfl⟩
      rw [← hfl] at c5 k2'
      rw [← hpa] at c1 k1'
      rw [← hpb] at c2 k1'
      rw [← hpp] at c35 k1'
      obtain ⟨W5, hW5⟩ : ∃ W5, w4.alloc (.cells Y4 31) = W5 := ⟨_, rfl⟩
      have hg4 : w4.heap.size < W5.heap.size := by rw [← hW5]; simp
      dsimp only
      go_upto_region 5 with (fail)
      rw [hW5] at r5 r5G B5 z5 c1 c2 c5 c35
      have l1 : LtN w4.heap.size W5.heap.size := hg4
      have l2 : LtN G W5.heap.size := (Array.getElem?_eq_some_iff.1 r5G).1
      have l3 : LtN w.heap.size W5.heap.size := (Array.getElem?_eq_some_iff.1 z5).1
      have B6 : Hid (Below W.heap.size W (W5.alloc (.cells XT 52))) := hide (B5.out.alloc B5.out.size _)
      have c5' := (World.cell?_alloc_lt W5 (.cells XT 52) ⟨w4.heap.size, 5, none⟩ hg4).trans c5
      clear hXT hXS VT VS hS hT k1 k2 hfl hpa hpb hpp hok hne V4 q1 q2 q3 hGn hg4 hW5 b4 b5 r4 HKS
      go_wp2
      have z6 : (W5.alloc (.cells XT 52)).heap[w.heap.size]? = some (.cells Z 54 (0, 0)) := (heap_old _ l3).trans z5
      have hrow := setRow_heap (W5.alloc (.cells XT 52)) w.heap.size Z XS _ _ z6
      refine bodyPost_ret (results_cell_tmp (fn := Try.f19) Try.results19 _ _ w.heap.size 54 XS (0, 0) _ rfl hrow Try.underlying54 rfl (by rw [s1]; exact info_seen)) rfl ?_
      exact ⟨XS, by rw [hE0.out]; rfl, below_setRow (HB.out.trans (B6.out.mono HB.out.size)) (Nat.le_refl _) _, fun h => absurd hE0.out h, fun _ => HVS.out⟩
    · have hEb : (segE (pkH l) (pkD l) != 0) = true := by simpa using hE4
      have hE0 : Hid (seenE l = segE (pkH l) (pkD l)) := hof
      have hEn : Hid (segE (pkH l) (pkD l) ≠ 0) := hide hE4
      obtain ⟨E, hEE⟩ : ∃ E, E = segE (pkH l) (pkD l) := ⟨_, rfl⟩
      rw [← hEE] at hEb hE0 hEn ⊢
      clear hok hne hE4 hEE r5G r4 hGn x1 x2
      dsimp only
      go_wp2
      have hrow := setRow_heap _ w.heap.size Z Z _ _ z5
      refine bodyPost_ret (results_cell_tmp (fn := Try.f19) Try.results19 _ _ w.heap.size 54 Z (0, 0) _ rfl hrow Try.underlying54 rfl (by rw [hZs]; exact info_seen)) rfl ?_
      exact ⟨Z, by rw [hE0.out]; rfl, below_setRow (HB.out.trans (B5.out.mono HB.out.size)) (Nat.le_refl _) _, fun _ => HZE.out, fun h => absurd (hE0.out.symm.trans h) hEn.out⟩
  · have hX := he2 hE
    have V2 : IpV X2 (nIp 0 0 0 0 false) := by rw [hX]; exact nIp_ok _ _ _ _ _
    have h2s := V2.size
    have h2o := V2.one
    have hEb : (pkE l != 0) = true := by simpa using hE
    have hE0 : Hid (seenE l = pkE l) := hide (by unfold seenE; rw [if_pos hE])
    have hEn : Hid (pkE l ≠ 0) := hide hE
    obtain ⟨E, hEE⟩ : ∃ E, E = pkE l := ⟨_, rfl⟩
    rw [← hEE] at hEb hE0 hEn ⊢
    have b3 : Below w2.heap.size w2 (w2.alloc (.cells X2 36)) := (Below.refl _ _).alloc (Nat.le_refl _) _
    have B3 : Hid (Below W.heap.size W (w2.alloc (.cells X2 36))) := hide ((b2.trans (b3.mono b2.size)))
    have z3 := HKZ.out _ B3.out
    clear he2 hok2 hX V2 hE hEE b2 b3
    dsimp only
    go_wp2
    have hrow := setRow_heap _ w.heap.size Z Z _ _ z3
    refine bodyPost_ret (results_cell_tmp (fn := Try.f19) Try.results19 _ _ w.heap.size 54 Z (0, 0) _ rfl hrow Try.underlying54 rfl (by rw [hZs]; exact info_seen)) rfl ?_
    exact ⟨Z, by rw [hE0.out]; rfl, below_setRow (HB.out.trans (B3.out.mono HB.out.size)) (Nat.le_refl _) _, fun _ => HZE.out, fun h => absurd (hE0.out.symm.trans h) hEn.out⟩
end Go.Proofs.Ytcfckhdohcaffaa

end
section
/-
  The walk of tuple.Make: a packet of any tuple.
-/
namespace Go.Proofs.Ytcfckhdohcaffaa
open Go.RowKit
attribute [local go_sem ↓] exec_span exec_put exec_build heap_alloc_new heap_old heap_alloc_drew
attribute [local go_sem] spanQ_ptr spanC_some heap_of_drew heap_of_drewN rs_arr rs_ad rs_ip rs_rip rs_seg rs_rseg rs_tup rs_seen putAt_ptr putOk_ptr oldOk_some World.setRow_alloc_new setRow_drew
set_option maxRecDepth 100000
set_option linter.unusedVariables false
set_option linter.unusedSimpArgs false

/-- the packet and the segment that are made of a tuple. -/
def makH (t : Tup) (ad : Option Addr) (n c : Nat) : Ip := ⟨t.sv, t.sv, t.sb, t.dv, t.db, t.p, 64, 0, 0, false, 0, none, 0, 0, ad, n, c⟩
def makS (t : Tup) (f : Int) (ad : Option Addr) (n c : Nat) : Sg := ⟨t.p, t.s, t.d, 0, 0, f, 0, 0, false, none, 0, 0, ad, n, c⟩
theorem built_mhA (v u : Bool) (p : Int) (b0 b1 b2 b3 b4 b5 b6 b7 b8 b9 b10 b11 b12 b13 b14 b15 c0 c1 c2 c3 c4 c5 c6 c7 c8 c9 c10 c11 c12 c13 c14 c15 : UInt8) : Try.prog.built 36 [(0, .bool v), (1, .agg (adL v [b0, b1, b2, b3, b4, b5, b6, b7, b8, b9, b10, b11, b12, b13, b14, b15]).toArray), (2, .agg (adL u [c0, c1, c2, c3, c4, c5, c6, c7, c8, c9, c10, c11, c12, c13, c14, c15]).toArray), (3, .int .i64 p), (4, .int .i64 64)] = some (ipL (makH ⟨v, [b0, b1, b2, b3, b4, b5, b6, b7, b8, b9, b10, b11, b12, b13, b14, b15], u, [c0, c1, c2, c3, c4, c5, c6, c7, c8, c9, c10, c11, c12, c13, c14, c15], p, 0, 0⟩ none 0 0)).toArray := by kernel_rfl
theorem built_mh (t : Tup) (ls : t.sb.length = 16) (ld : t.db.length = 16) : Try.prog.built 36 [(0, .bool t.sv), (1, .agg (adL t.sv t.sb).toArray), (2, .agg (adL t.dv t.db).toArray), (3, .int .i64 t.p), (4, .int .i64 64)] = some (ipL (makH t none 0 0)).toArray := by
  obtain ⟨v, sb, u, db, p, s, d⟩ := t
  match sb, ls, db, ld with
  | [_, _, _, _, _, _, _, _, _, _, _, _, _, _, _, _], _, [_, _, _, _, _, _, _, _, _, _, _, _, _, _, _, _], _ => exact built_mhA _ _ _ _ _ _ _ _ _ _ _ _ _ _ _ _ _ _ _ _ _ _ _ _ _ _ _ _ _ _ _ _ _ _ _
theorem built_ms (t : Tup) (f : Int) (ad : Option Addr) (n c : Nat) : Try.prog.built 31 [(0, .int .i64 t.p), (1, .int .i64 t.s), (2, .int .i64 t.d), (5, .int .i64 f), (10, .slice ad n c)] = some (sgL (makS t f ad n c)).toArray := by kernel_rfl
/-- the segment's bytes; what is wrong; the packet. -/
def mkL (t : Tup) (f : Int) (D : List UInt8) : List UInt8 := putB (makH t none 0 0) (makS t f none D.length 0) [] D
def mkP (t : Tup) (f : Int) (D : List UInt8) : Int := putE (makH t none 0 0) (makS t f none D.length 0)
def mkE (t : Tup) (f : Int) (D : List UInt8) : Int := if rightT t = false then 1 else if mkP t f D ≠ 0 then mkP t f D else pktE (makH t none (mkL t f D).length 0)
def mkB (t : Tup) (f : Int) (D : List UInt8) : List UInt8 := if rightT t = false then [] else if mkP t f D ≠ 0 then [] else pktB (makH t none (mkL t f D).length 0) [] (mkL t f D)
def MakeS (w : World) (t : Tup) (f : Int) (D : List UInt8) (e : Ending) (w' : World) : Prop := ∃ A c, e = .returned (.tuple #[.slice A (mkB t f D).length c, .int .i64 (mkE t f D)]) ∧ OwnB w' w.heap.size (.slice A (mkB t f D).length c) (mkB t f D) ∧ Below w.heap.size w w'

set_option maxHeartbeats 4000000 in
theorem make_any (w : World) (X : Array Value) (t : Tup) (x : TuV X t) (f : Int) (A : Option Addr) (c : Nat) (D : List UInt8) (hD : Byt w w.heap.size A D) (hc : D.length ≤ c) (hn : D.length ≤ 140737488355328) (hnil : A = none → c = 0) :
    Calls Try.prog 25 #[.agg X, .int .i64 f, .slice A D.length c] w fun e w' => MakeS w t f D e w' := by
  have hxs := x.size
  have hx0 := x.x0
  have ls := x.ls
  have ld := x.ld
  obtain ⟨W, hW, r1, hz, hbW⟩ := one_block w (.cells X 52)
  have KR := hide (righttuple_any W X t x)
  have hk := hide (fun (w1 : World) (b : Below W.heap.size W w1) => ((b.block w.heap.size (by omega)).trans r1 : w1.heap[w.heap.size]? = some (.cells X 52 (0, 0))))
  have HB := hide hbW
  have HZ := hide hz
  have HX := hide x
  have HD := hide hD
  by_cases hr : rightT t = true
  · rw [hr] at KR
    have e1 : mkE t f D = if mkP t f D ≠ 0 then mkP t f D else pktE (makH t none (mkL t f D).length 0) := by unfold mkE; rw [if_neg (by rw [hr]; decide)]
    have e2 : mkB t f D = if mkP t f D ≠ 0 then [] else pktB (makH t none (mkL t f D).length 0) [] (mkL t f D) := by unfold mkB; rw [if_neg (by rw [hr]; decide)]
    have HE1 := hide e1
    have HE2 := hide e2
    clear hr e1 e2 hbW hz x hD
    go_enter Try.func25, Try.ntmps25
    go_wp2_with fail
    refine KR.out.mono ?_
    rintro e w1 ⟨rfl, b1⟩
    have B1 : Hid (Below W.heap.size W w1) := hide b1
    have q1 := hk.out w1 b1
    have x1 := HX.out.src
    have x2 := HX.out.dst
    obtain ⟨k0, k17, k34, k35, k36⟩ := HX.out.cells q1
    have bm := built_mh t ls ld
    have bs := built_ms t f A D.length c
    obtain ⟨S, hS⟩ : ∃ S, S = (adL t.sv t.sb).toArray := ⟨_, rfl⟩
    obtain ⟨T, hT⟩ : ∃ S, S = (adL t.dv t.db).toArray := ⟨_, rfl⟩
    rw [← hS] at x1 bm
    rw [← hT] at x2 bm
    obtain ⟨XH, hXH⟩ : ∃ XH, XH = (ipL (makH t none 0 0)).toArray := ⟨_, rfl⟩
    obtain ⟨XS, hXS⟩ : ∃ XS, XS = (sgL (makS t f A D.length c)).toArray := ⟨_, rfl⟩
    rw [← hXH] at bm
    rw [← hXS] at bs
    have VH : IpV XH (makH t none 0 0) := ⟨hXH, ls, ld⟩
    have VS : SgV XS (makS t f A D.length c) := ⟨hXS, Nat.succ_pos _, Nat.succ_pos _⟩
    have hs1 := VH.size
    have hs2 := VH.one
    have hs3 := VH.x0
    have ss1 := VS.size
    have ss2 := VS.one
    have ss3 := VS.x0
    have hg1 : w.heap.size < w1.heap.size := (Array.getElem?_eq_some_iff.1 q1).1
    have b2 : Below w1.heap.size w1 (w1.alloc (.cells XH 36)) := (Below.refl _ _).alloc (Nat.le_refl _) _
    have q2 := (b2.block _ hg1).trans q1
    have rH := heap_alloc_new w1 (.cells XH 36)
    obtain ⟨j0, j17, j34, j35, j36⟩ := HX.out.cells q2
    have B2 : Hid (Below W.heap.size W (w1.alloc (.cells XH 36))) := hide (b1.trans (b2.mono b1.size))
    have hG1 : (w1.alloc (.cells XH 36)).heap.size = w1.heap.size + 1 := by simp
    clear q2 b2 b1 hS hT hXS hXH hg1
    dsimp only
    go_upto_region 4 with (fail)
    obtain ⟨G, hG⟩ : ∃ G, G = w1.heap.size := ⟨_, rfl⟩
    have HGW : Hid (W.heap.size ≤ G) := hide (by rw [hG]; exact B1.out.size)
    rw [← hG] at rH hG1 ⊢
    generalize w1.alloc (.cells XH 36) = w2 at rH B2 j0 j17 j34 j35 j36 hG1 ⊢
    have b3 : Below w2.heap.size w2 (w2.alloc (.cells XS 31)) := (Below.refl _ _).alloc (Nat.le_refl _) _
    have rS := heap_alloc_new w2 (.cells XS 31)
    have rH3 := (b3.block G (by omega)).trans rH
    have B3 : Hid (Below W.heap.size W (w2.alloc (.cells XS 31))) := hide (B2.out.trans (b3.mono B2.out.size))
    clear b3 rH hG k0 k17 k34 k35 k36 hG1
    go_upto_region 5 with (fail)
    generalize w2.alloc (.cells XS 31) = w3 at rH3 rS B3 ⊢
    have KP := segPut_any w3 XH XS (makH t none 0 0) (makS t f A D.length c) VH VS [] D (Byt.nil _ _ _) rfl (Nat.le_refl _) (fun _ => rfl) ((HD.out.below (HB.out.trans (B3.out.mono HB.out.size))).more (Nat.le_trans HB.out.size B3.out.size)) rfl hc hnil (Nat.zero_le _) hn
    have hP1 : putE (makH t none 0 0) (makS t f A D.length c) = mkP t f D := rfl
    have hP2 : putB (makH t none 0 0) (makS t f A D.length c) [] D = mkL t f D := rfl
    rw [hP1, hP2] at KP
    obtain ⟨E, hE⟩ : ∃ E, E = mkP t f D := ⟨_, rfl⟩
    obtain ⟨L, hL⟩ : ∃ L, L = mkL t f D := ⟨_, rfl⟩
    rw [← hE, ← hL] at KP HE1 HE2
    have HKP := hide KP
    have HL : Hid (L.length ≤ 65535) := hide (by
      rw [hL]
      show (putB (makH t none 0 0) (makS t f A D.length c) [] D).length ≤ 65535
      unfold putB
      by_cases h0 : putE (makH t none 0 0) (makS t f A D.length c) = 0
      · obtain ⟨-, -, p3, -, p5⟩ := putE_zero h0
        rw [if_pos h0, len_segB p3 rfl rfl]
        exact p5
      · rw [if_neg h0]; exact Nat.zero_le _)
    have HRH := hide rH3
    have HVH := hide VH
    clear KP hP1 hP2 hE hL VS
    go_wp2_with fail
    refine HKP.out.mono ?_
    rintro e w4 ⟨A4, c4, rfl, o4, b4⟩
    have B4 : Hid (Below W.heap.size W w4) := hide (B3.out.trans (b4.mono B3.out.size))
    by_cases hE0 : E = 0
    · subst hE0
      have r4 := (b4.block G (Array.getElem?_eq_some_iff.1 HRH.out).1).trans HRH.out
      obtain ⟨A', c', hv', hlc4, hby4, hnil4, hbl4⟩ := o4.shape
      cases hv'
      have g42 := (HVH.out.cells r4).c42
      have f42 := frozen_of_row w4 G 42 _ _ r4
      have r5 := heap_setCell_same w4 G 42 _ _ (.slice A4 L.length c4) r4
      rw [HVH.out.eq, ip_set42 _ ls ld] at r5
      obtain ⟨X5, hX5⟩ : ∃ X5, X5 = (ipL (makH t A4 L.length c4)).toArray := ⟨_, rfl⟩
      have r5' : (w4.setCell ⟨G, 42, none⟩ (.slice A4 L.length c4)).heap[G]? = some (.cells X5 36 (0, 0)) := by rw [hX5]; exact r5
      have hg5 := grown_set w4 G 42 (.slice A4 L.length c4)
      have hb5 : Below W.heap.size W (w4.setCell ⟨G, 42, none⟩ (.slice A4 L.length c4)) := B4.out.grown hg5 B4.out.size (fun i e => by cases e; exact HGW.out)
      have hG3 := (Array.getElem?_eq_some_iff.1 HRH.out).1
      have hby5 : Byt (w4.setCell ⟨G, 42, none⟩ (.slice A4 L.length c4)) w4.heap.size A4 L := hby4.other (Nat.le_refl _) hg5 (fun a e => by have := (hbl4 a e).1; omega)
      obtain ⟨w5, hw5⟩ : ∃ w5, w4.setCell ⟨G, 42, none⟩ (.slice A4 L.length c4) = w5 := ⟨_, rfl⟩
      have hn5 : w4.heap.size ≤ w5.heap.size := by rw [← hw5]; simp
      rw [hw5] at r5' hb5 hby5
      have V5 : IpV X5 (makH t A4 L.length c4) := ⟨hX5, ls, ld⟩
      have KH := putH_any w5 X5 (makH t A4 L.length c4) V5 [] L (Byt.nil _ _ _) rfl (hby5.more hn5) rfl (Nat.zero_le _) (by have := HL.out; show L.length ≤ _; omega)
      have hK1 : pktE (makH t A4 L.length c4) = pktE (makH t none L.length 0) := rfl
      have hK2 : pktB (makH t A4 L.length c4) [] L = pktB (makH t none L.length 0) [] L := rfl
      have e3 : mkE t f D = pktE (makH t none L.length 0) := by rw [HE1.out, if_neg (by simp)]
      have e4 : mkB t f D = pktB (makH t none L.length 0) [] L := by rw [HE2.out, if_neg (by simp)]
      rw [hK1, hK2, ← e3, ← e4] at KH
      have HKH := hide KH
      have HB5 := hide hb5
      have h5s := V5.size
      have h50 := V5.x0
      clear KH hK1 hK2 e3 e4 hX5 V5 hby5 hn5 hb5 hg5 hG3 r5 hby4 o4 hbl4 hlc4 r4 b4 HE1 HE2
      dsimp only
      go_wp2_with fail
      refine HKH.out.mono ?_
      rintro e w6 ⟨A6, c6, rfl, o6, b6⟩
      have B6 : Hid (Below w.heap.size w w6) := hide (HB.out.trans ((HB5.out.trans (b6.mono HB5.out.size)).mono HB.out.size))
      have O6 := hide (own_low o6 (Nat.le_trans HB.out.size HB5.out.size))
      clear o6 b6 hw5 g42 f42 r5'
      dsimp only
      go_wp2
      first | exact ⟨A6, c6, rfl, O6.out, B6.out⟩ | (go_ret2; exact ⟨A6, c6, rfl, O6.out, B6.out⟩)
    · have hEb : (E != 0) = true := by simpa using hE0
      have e3 : Hid (mkE t f D = E) := hide (by rw [HE1.out, if_pos hE0])
      have e4 : Hid (mkB t f D = []) := hide (by rw [HE2.out, if_pos hE0])
      have B6 : Hid (Below w.heap.size w w4) := hide (HB.out.trans (B4.out.mono HB.out.size))
      clear o4 b4 hE0
      dsimp only
      go_wp2
      first | exact ⟨none, 0, by rw [e3.out, e4.out]; rfl, by rw [e4.out]; exact OwnB.nil _ _, B6.out⟩ | (go_ret2; exact ⟨none, 0, by rw [e3.out, e4.out]; rfl, by rw [e4.out]; exact OwnB.nil _ _, B6.out⟩)
  · have hrf : rightT t = false := by simpa using hr
    rw [hrf] at KR
    have e3 : Hid (mkE t f D = 1) := hide (by unfold mkE; rw [if_pos hrf])
    have e4 : Hid (mkB t f D = []) := hide (by unfold mkB; rw [if_pos hrf])
    clear hr hrf hbW hz x hD
    go_enter Try.func25, Try.ntmps25
    go_wp2_with fail
    refine KR.out.mono ?_
    rintro e w1 ⟨rfl, b1⟩
    have B1 : Hid (Below w.heap.size w w1) := hide (HB.out.trans (b1.mono HB.out.size))
    clear b1
    dsimp only
    go_wp2
    first | exact ⟨none, 0, by rw [e3.out, e4.out]; rfl, by rw [e4.out]; exact OwnB.nil _ _, B1.out⟩ | (go_ret2; exact ⟨none, 0, by rw [e3.out, e4.out]; rfl, by rw [e4.out]; exact OwnB.nil _ _, B1.out⟩)
end Go.Proofs.Ytcfckhdohcaffaa

end
