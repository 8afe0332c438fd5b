/-
  The walks of steelyardlaw05.within, given and taken.
-/
import Derived.Test.YtcfckhdohcaffaaJb
import Derived.Test.YtcfckhdohcaffaaMka
import Derived.Deep.RegionHeld3
namespace Go.Proofs.Ytcfckhdohcaffaa
open Go.RowKit
attribute [local go_sem ↓] exec_span exec_put exec_build heap_alloc_new heap_old
attribute [local go_sem] spanQ_ptr spanC_some heap_of_drew heap_of_drewN rs_arr rs_ad rs_ip rs_rip putAt_ptr putOk_ptr oldOk_some World.setRow_alloc_new
set_option maxRecDepth 100000
set_option linter.unusedVariables false
set_option linter.unusedSimpArgs false

set_option maxHeartbeats 4000000 in
theorem withinH5_any (w : World) (X : Array Value) (h : Ip) (x : IpV X h) (O D : List UInt8) (hO : Byt w w.heap.size h.ao O) (hOl : O.length = h.no) (hD : Byt w w.heap.size h.ad D) (hDl : D.length = h.nd) (hno : h.no ≤ h.co) (hnd : h.nd ≤ h.cd) (hn : h.no ≤ 140737488355320) (hn2 : h.nd ≤ 140737488355320) :
    Calls Try.prog 9 #[.agg X] w fun e w' => Given w h O D e w' := by
  have hxs := x.size
  have hxo := x.one
  have hsrc := x.src
  have hdst := x.dst
  obtain ⟨W, hW⟩ : ∃ W, (w.alloc (.cells X 27)).alloc (.cells (ipL (nIp 0 0 0 0 false)).toArray 36) = W := ⟨_, rfl⟩
  obtain ⟨h1, h2, hz, hb⟩ := two_packs w X _ _ _ W hW
  have HX := hide x
  have HZ := hide hz
  have HB := hide hb
  have HW := hide hW
  have hZs : (ipL (nIp 0 0 0 0 false)).toArray.size = 43 := (nIp_ok 0 0 0 0 false).size
  obtain ⟨Z, hZ⟩ : ∃ Z, Z = (ipL (nIp 0 0 0 0 false)).toArray := ⟨_, rfl⟩
  rw [← hZ] at h2 hZs
  have HH1 := hide h1
  have HH2 := hide h2
  have KO := hide (fun (W1 : World) (hb1 : Below w.heap.size w W1) => lent_any h.ao h.co O w.heap.size W1 (by omega) (by omega) (hO.below hb1) hb1.size)
  have KD := hide (fun (W1 : World) (hb1 : Below w.heap.size w W1) => lent_any h.ad h.cd D w.heap.size W1 (by omega) (by omega) (hD.below hb1) hb1.size)
  rw [hOl] at KO
  rw [hDl] at KD
  obtain ⟨Y, hY⟩ : ∃ Y : Nat → Nat → Array Value, ∀ a b, Y a b = (ipL (givH h a b)).toArray := ⟨_, fun _ _ => rfl⟩
  have hbl : ∀ g1 g2, Try.prog.built 36 (ipP (givH h g1 g2)) = some (Y g1 g2) := fun g1 g2 => by rw [hY]; exact built_h _ x.ls x.ld
  have hYs : ∀ a b, (Y a b).size = 43 := fun a b => by rw [hY]; exact IpV.size (h := givH h a b) ⟨rfl, x.ls, x.ld⟩
  have hYo : ∀ a b, allOne (Y a b) = true := fun a b => by rw [hY]; exact IpV.one (h := givH h a b) ⟨rfl, x.ls, x.ld⟩
  have HY := hide hY
  clear hY
  unfold ipP givH at hbl
  simp only [] at hbl
  have hkeep : ∀ W1 : World, Below W.heap.size W W1 → W1.heap[w.heap.size]? = some (.cells X 27 (0, 0)) ∧ IpC W1 w.heap.size h := fun W1 hb1 => by
    have hh := (hb1.block w.heap.size (by omega)).trans h1
    exact ⟨hh, x.cells hh⟩
  have HK := hide hkeep
  have HS2 : Hid (∀ W1 : World, W1.heap[w.heap.size]? = some (.cells X 27 (0, 0)) → W1.heap[w.heap.size]? = some (.cells X 27 (0, 0)) ∧ W1.cell? ⟨w.heap.size, 0, none⟩ = some (.bool h.v) ∧ W1.cell? ⟨w.heap.size, 35, none⟩ = some (.int .i64 h.p) ∧ W1.cell? ⟨w.heap.size, 36, none⟩ = some (.int .i64 h.ttl) ∧ W1.cell? ⟨w.heap.size, 37, none⟩ = some (.int .i64 h.tos) ∧ W1.cell? ⟨w.heap.size, 38, none⟩ = some (.int .i64 h.id) ∧ W1.cell? ⟨w.heap.size, 39, none⟩ = some (.bool h.df) ∧ W1.cell? ⟨w.heap.size, 40, none⟩ = some (.int .i64 h.lab) ∧ W1.cell? ⟨w.heap.size, 41, none⟩ = some (.slice h.ao h.no h.co) ∧ W1.cell? ⟨w.heap.size, 42, none⟩ = some (.slice h.ad h.nd h.cd)) := hide (fun W1 hh => by obtain ⟨c0, c1, c18, c35, c36, c37, c38, c39, c40, c41, c42⟩ := x.cells hh; exact ⟨hh, c0, c35, c36, c37, c38, c39, c40, c41, c42⟩)
  have c := x.cells h1
  clear hz hb hW hZ hkeep hO hD hOl hDl x
  go_enter Try.func9, Try.ntmps9
  go_upto_region 1 with (fail)
  change Code.wp _ _ _ _ ((w.alloc (.cells X 27)).alloc (.cells (ipL (nIp 0 0 0 0 false)).toArray 36))
  rw [HW.out]
  obtain ⟨c0, c1, c18, c35, c36, c37, c38, c39, c40, c41, c42⟩ := c
  go_region_held3 (fun w' => w'.heap[w.heap.size]? = some (.cells X 27 (0, 0)) ∧ w'.cell? ⟨w.heap.size, 0, none⟩ = some (.bool h.v) ∧ w'.cell? ⟨w.heap.size, 35, none⟩ = some (.int .i64 h.p) ∧ w'.cell? ⟨w.heap.size, 36, none⟩ = some (.int .i64 h.ttl) ∧ w'.cell? ⟨w.heap.size, 37, none⟩ = some (.int .i64 h.tos) ∧ w'.cell? ⟨w.heap.size, 38, none⟩ = some (.int .i64 h.id) ∧ w'.cell? ⟨w.heap.size, 39, none⟩ = some (.bool h.df) ∧ w'.cell? ⟨w.heap.size, 40, none⟩ = some (.int .i64 h.lab) ∧ w'.cell? ⟨w.heap.size, 41, none⟩ = some (.slice h.ao h.no h.co) ∧ w'.cell? ⟨w.heap.size, 42, none⟩ = some (.slice h.ad h.nd h.cd))
    (first
      | exact ⟨HH1.out, c0, c35, c36, c37, c38, c39, c40, c41, c42⟩
      | exact ⟨r4, d0, d35, d36, d37, d38, d39, d40, d41, d42⟩
      | exact HS2.out _ ((setRow_other _ _ _ _ (by simp)).trans r5)
      | exact ⟨r5, e0, e35, e36, e37, e38, e39, e40, e41, e42⟩
      | fail)
    (first
      | (go_at_call 18; (with_reducible refine (KO.out W.drew HB.out.drew).mono ?_); rintro e w4 ⟨rfl, L4, b4⟩; have B4 : Hid (Below W.heap.size W w4) := hide (below_undrew' b4); have HL4 := hide L4; obtain ⟨r4, d0, d1, d18, d35, d36, d37, d38, d39, d40, d41, d42⟩ := HK.out w4 B4.out; clear L4 b4)
      | (go_at_call 18; (with_reducible refine (KD.out w4 (HB.out.trans (B4.out.mono (by have := HZ.out; omega)))).mono ?_); rintro e w5 ⟨rfl, L5, b5⟩; have B5 : Hid (Below W.heap.size W w5) := hide (B4.out.trans (b5.mono B4.out.size)); have HL5 := hide L5; have HB5 := hide b5; obtain ⟨r5, e0, e1, e18, e35, e36, e37, e38, e39, e40, e41, e42⟩ := HK.out w5 B5.out; have z5 : w5.heap[w.heap.size + 1]? = some (.cells Z 36 (0, 0)) := (B5.out.block (w.heap.size + 1) (by have := HZ.out; omega)).trans HH2.out; clear L5 b5)
      | fail)
  all_goals (
    have hrow := setRow_heap w5 (w.heap.size + 1) Z (Y W.heap.size w4.heap.size) _ _ z5
    have hsz4 : W.heap.size < w4.heap.size := (Array.getElem?_eq_some_iff.1 HL4.out).1
    have hsz5 : w4.heap.size < w5.heap.size := (Array.getElem?_eq_some_iff.1 HL5.out).1
    have hZ2 := HZ.out
    have hfin : Given w h O D (.returned (.agg (Y W.heap.size w4.heap.size))) (w5.setRow (w.heap.size + 1) (Y W.heap.size w4.heap.size)) := by
      refine ⟨W.heap.size, w4.heap.size, by rw [HY.out], ?_, ?_, by omega, by omega, below_setRow (HB.out.trans (B5.out.mono (by omega))) (by omega) _⟩
      · exact (setRow_other _ _ _ _ (by omega)).trans ((HB5.out.block W.heap.size hsz4).trans HL4.out)
      · exact (setRow_other _ _ _ _ (by omega)).trans HL5.out
    have HF := hide hfin
    clear hfin hsz4 hsz5 hZ2
    go_wp2
    refine bodyPost_ret (results_cell_row (fn := Try.f9) Try.results9 _ _ (w.heap.size + 1) 36 (Y W.heap.size w4.heap.size) (0, 0) _ rfl hrow Try.underlying36 rfl (by rw [hYs]; exact info_ip)) rfl ?_
    exact HF.out)

theorem rs_rseg : rowSize Try.prog 30 = some 11 := by kernel_rfl
theorem info_seg : (Try.prog.info? 31).map (·.size) = some 11 := by kernel_rfl
theorem info_rseg : (Try.prog.info? 30).map (·.size) = some 11 := by kernel_rfl
attribute [local go_sem] rs_seg rs_rseg
/-- the parts that a segment is made of. -/
def sgP (s : Sg) : List (Nat × Value) := [(0, .int .i64 s.p), (1, .int .i64 s.a), (2, .int .i64 s.b), (3, .int .u32 (s.q : Int)), (4, .int .u32 (s.k : Int)), (5, .int .i64 s.f), (6, .int .i64 s.wn), (7, .int .i64 s.u), (8, .bool s.ns), (9, .slice s.ao s.no s.co), (10, .slice s.ad s.nd s.cd)]
theorem built_sg (s : Sg) : Try.prog.built 31 (sgP s) = some (sgL s).toArray := by kernel_rfl
theorem built_rsg (s : Sg) : Try.prog.built 30 (sgP s) = some (sgL s).toArray := by kernel_rfl
def nSg : Sg := ⟨0, 0, 0, 0, 0, 0, 0, 0, false, none, 0, 0, none, 0, 0⟩
theorem nSg_ok : SgV (sgL nSg).toArray nSg := ⟨rfl, by decide, by decide⟩
/-- the segment as the program has it: its lists in new memory, marks behind them. -/
def givS (s : Sg) (g1 g2 : Nat) : Sg := { s with ao := some ⟨g1, 0, none⟩, co := s.no + 8, ad := some ⟨g2, 0, none⟩, cd := s.nd + 8 }
def GivenS (w : World) (s : Sg) (O D : List UInt8) (e : Ending) (w' : World) : Prop := ∃ g1 g2, e = .returned (.agg (sgL (givS s g1 g2)).toArray) ∧ Lentd w' g1 O ∧ Lentd w' g2 D ∧ w.heap.size ≤ g1 ∧ w.heap.size ≤ g2 ∧ Below w.heap.size w w'

set_option maxHeartbeats 4000000 in
theorem takenS_any (w : World) (X : Array Value) (h : Sg) (x : SgV X h) :
    Calls Try.prog 12 #[.agg X] w fun e w' => e = .returned (.agg X) ∧ Below w.heap.size w w' := by
  have hxs := x.size
  have hxo := x.one
  have hbl := built_rsg h
  rw [← x.eq] at hbl
  unfold sgP at hbl
  obtain ⟨W, hW⟩ : ∃ W, (w.alloc (.cells X 31)).alloc (.cells (sgL nSg).toArray 30) = W := ⟨_, rfl⟩
  obtain ⟨h1, h2, hz, hb⟩ := two_packs w X _ _ _ W hW
  obtain ⟨c0, c1, c2, c3, c4, c5, c6, c7, c8, c9, c10⟩ := x.cells h1
  have HB := hide hb
  have HZ := hide hz
  have HW := hide hW
  have hZs : (sgL nSg).toArray.size = 11 := rfl
  obtain ⟨Z, hZ⟩ : ∃ Z, Z = (sgL nSg).toArray := ⟨_, rfl⟩
  rw [← hZ] at h2 hZs
  clear hz hb hW hZ
  go_enter Try.func12, Try.ntmps12
  go_upto_region 1 with (fail)
  change Code.wp _ _ _ _ ((w.alloc (.cells X 31)).alloc (.cells (sgL nSg).toArray 30))
  rw [HW.out]
  go_wp2
  have hrow := setRow_heap W (w.heap.size + 1) Z X _ _ h2
  refine bodyPost_ret (results_cell_row (fn := Try.f12) Try.results12 _ _ (w.heap.size + 1) 30 X (0, 0) _ rfl hrow Try.underlying30 rfl (by rw [hxs]; exact info_rseg)) rfl ?_
  exact ⟨rfl, below_setRow HB.out (by have := HZ.out; omega) _⟩

set_option maxHeartbeats 4000000 in
theorem givenS_any (w : World) (X : Array Value) (h : Sg) (x : SgV X h) (O D : List UInt8) (hO : Byt w w.heap.size h.ao O) (hOl : O.length = h.no) (hD : Byt w w.heap.size h.ad D) (hDl : D.length = h.nd) (hno : h.no ≤ h.co) (hnd : h.nd ≤ h.cd) (hn : h.no ≤ 140737488355320) (hn2 : h.nd ≤ 140737488355320) :
    Calls Try.prog 7 #[.agg X] w fun e w' => GivenS w h O D e w' := by
  have hxs := x.size
  have hxo := x.one
  obtain ⟨W, hW⟩ : ∃ W, (w.alloc (.cells X 30)).alloc (.cells (sgL nSg).toArray 31) = W := ⟨_, rfl⟩
  obtain ⟨h1, h2, hz, hb⟩ := two_packs w X _ _ _ W hW
  have HX := hide x
  have HZ := hide hz
  have HB := hide hb
  have HW := hide hW
  have hZs : (sgL nSg).toArray.size = 11 := rfl
  obtain ⟨Z, hZ⟩ : ∃ Z, Z = (sgL nSg).toArray := ⟨_, rfl⟩
  rw [← hZ] at h2 hZs
  have HH1 := hide h1
  have HH2 := hide h2
  have KO := hide (fun (W1 : World) (hb1 : Below w.heap.size w W1) => lent_any h.ao h.co O w.heap.size W1 (by omega) (by omega) (hO.below hb1) hb1.size)
  have KD := hide (fun (W1 : World) (hb1 : Below w.heap.size w W1) => lent_any h.ad h.cd D w.heap.size W1 (by omega) (by omega) (hD.below hb1) hb1.size)
  rw [hOl] at KO
  rw [hDl] at KD
  obtain ⟨Y, hY⟩ : ∃ Y : Nat → Nat → Array Value, ∀ a b, Y a b = (sgL (givS h a b)).toArray := ⟨_, fun _ _ => rfl⟩
  have hbl : ∀ g1 g2, Try.prog.built 31 (sgP (givS h g1 g2)) = some (Y g1 g2) := fun g1 g2 => by rw [hY]; exact built_sg _
  have hYs : ∀ a b, (Y a b).size = 11 := fun a b => by rw [hY]; rfl
  have hYo : ∀ a b, allOne (Y a b) = true := fun a b => by rw [hY]; exact SgV.one (s := givS h a b) ⟨rfl, x.hq, x.hk⟩
  have HY := hide hY
  clear hY
  unfold sgP givS at hbl
  simp only [] at hbl
  have hkeep : ∀ W1 : World, Below W.heap.size W W1 → W1.heap[w.heap.size]? = some (.cells X 30 (0, 0)) ∧ SgC W1 w.heap.size h := fun W1 hb1 => by
    have hh := (hb1.block w.heap.size (by omega)).trans h1
    exact ⟨hh, x.cells hh⟩
  have HK := hide hkeep
  have HS2 : Hid (∀ W1 : World, W1.heap[w.heap.size]? = some (.cells X 30 (0, 0)) → W1.heap[w.heap.size]? = some (.cells X 30 (0, 0)) ∧ W1.cell? ⟨w.heap.size, 0, none⟩ = some (.int .i64 h.p) ∧ W1.cell? ⟨w.heap.size, 1, none⟩ = some (.int .i64 h.a) ∧ W1.cell? ⟨w.heap.size, 2, none⟩ = some (.int .i64 h.b) ∧ W1.cell? ⟨w.heap.size, 3, none⟩ = some (.int .u32 (h.q : Int)) ∧ W1.cell? ⟨w.heap.size, 4, none⟩ = some (.int .u32 (h.k : Int)) ∧ W1.cell? ⟨w.heap.size, 5, none⟩ = some (.int .i64 h.f) ∧ W1.cell? ⟨w.heap.size, 6, none⟩ = some (.int .i64 h.wn) ∧ W1.cell? ⟨w.heap.size, 7, none⟩ = some (.int .i64 h.u) ∧ W1.cell? ⟨w.heap.size, 8, none⟩ = some (.bool h.ns) ∧ W1.cell? ⟨w.heap.size, 9, none⟩ = some (.slice h.ao h.no h.co) ∧ W1.cell? ⟨w.heap.size, 10, none⟩ = some (.slice h.ad h.nd h.cd)) := hide (fun W1 hh => by obtain ⟨c0, c1, c2, c3, c4, c5, c6, c7, c8, c9, c10⟩ := x.cells hh; exact ⟨hh, c0, c1, c2, c3, c4, c5, c6, c7, c8, c9, c10⟩)
  have c := x.cells h1
  clear hz hb hW hZ hkeep hO hD hOl hDl x
  go_enter Try.func7, Try.ntmps7
  go_upto_region 1 with (fail)
  change Code.wp _ _ _ _ ((w.alloc (.cells X 30)).alloc (.cells (sgL nSg).toArray 31))
  rw [HW.out]
  obtain ⟨c0, c1, c2, c3, c4, c5, c6, c7, c8, c9, c10⟩ := c
  go_region_held3 (fun w' => w'.heap[w.heap.size]? = some (.cells X 30 (0, 0)) ∧ w'.cell? ⟨w.heap.size, 0, none⟩ = some (.int .i64 h.p) ∧ w'.cell? ⟨w.heap.size, 1, none⟩ = some (.int .i64 h.a) ∧ w'.cell? ⟨w.heap.size, 2, none⟩ = some (.int .i64 h.b) ∧ w'.cell? ⟨w.heap.size, 3, none⟩ = some (.int .u32 (h.q : Int)) ∧ w'.cell? ⟨w.heap.size, 4, none⟩ = some (.int .u32 (h.k : Int)) ∧ w'.cell? ⟨w.heap.size, 5, none⟩ = some (.int .i64 h.f) ∧ w'.cell? ⟨w.heap.size, 6, none⟩ = some (.int .i64 h.wn) ∧ w'.cell? ⟨w.heap.size, 7, none⟩ = some (.int .i64 h.u) ∧ w'.cell? ⟨w.heap.size, 8, none⟩ = some (.bool h.ns) ∧ w'.cell? ⟨w.heap.size, 9, none⟩ = some (.slice h.ao h.no h.co) ∧ w'.cell? ⟨w.heap.size, 10, none⟩ = some (.slice h.ad h.nd h.cd))
    (first
      | exact ⟨HH1.out, c0, c1, c2, c3, c4, c5, c6, c7, c8, c9, c10⟩
      | exact ⟨r4, d0, d1, d2, d3, d4, d5, d6, d7, d8, d9, d10⟩
      | exact HS2.out _ ((setRow_other _ _ _ _ (by simp)).trans r5)
      | exact ⟨r5, e0, e1, e2, e3, e4, e5, e6, e7, e8, e9, e10⟩
      | fail)
    (first
      | (go_at_call 18; (with_reducible refine (KO.out W.drew HB.out.drew).mono ?_); rintro e w4 ⟨rfl, L4, b4⟩; have B4 : Hid (Below W.heap.size W w4) := hide (below_undrew' b4); have HL4 := hide L4; obtain ⟨r4, d0, d1, d2, d3, d4, d5, d6, d7, d8, d9, d10⟩ := HK.out w4 B4.out; clear L4 b4)
      | (go_at_call 18; (with_reducible refine (KD.out w4 (HB.out.trans (B4.out.mono (by have := HZ.out; omega)))).mono ?_); rintro e w5 ⟨rfl, L5, b5⟩; have B5 : Hid (Below W.heap.size W w5) := hide (B4.out.trans (b5.mono B4.out.size)); have HL5 := hide L5; have HB5 := hide b5; obtain ⟨r5, e0, e1, e2, e3, e4, e5, e6, e7, e8, e9, e10⟩ := HK.out w5 B5.out; have z5 : w5.heap[w.heap.size + 1]? = some (.cells Z 31 (0, 0)) := (B5.out.block (w.heap.size + 1) (by have := HZ.out; omega)).trans HH2.out; clear L5 b5)
      | fail)
  all_goals (
    have hrow := setRow_heap w5 (w.heap.size + 1) Z (Y W.heap.size w4.heap.size) _ _ z5
    have hsz4 : W.heap.size < w4.heap.size := (Array.getElem?_eq_some_iff.1 HL4.out).1
    have hsz5 : w4.heap.size < w5.heap.size := (Array.getElem?_eq_some_iff.1 HL5.out).1
    have hZ2 := HZ.out
    have hfin : GivenS w h O D (.returned (.agg (Y W.heap.size w4.heap.size))) (w5.setRow (w.heap.size + 1) (Y W.heap.size w4.heap.size)) := by
      refine ⟨W.heap.size, w4.heap.size, by rw [HY.out], ?_, ?_, by omega, by omega, below_setRow (HB.out.trans (B5.out.mono (by omega))) (by omega) _⟩
      · exact (setRow_other _ _ _ _ (by omega)).trans ((HB5.out.block W.heap.size hsz4).trans HL4.out)
      · exact (setRow_other _ _ _ _ (by omega)).trans HL5.out
    have HF := hide hfin
    clear hfin hsz4 hsz5 hZ2
    go_wp2
    refine bodyPost_ret (results_cell_row (fn := Try.f7) Try.results7 _ _ (w.heap.size + 1) 31 (Y W.heap.size w4.heap.size) (0, 0) _ rfl hrow Try.underlying31 rfl (by rw [hYs]; exact info_seg)) rfl ?_
    exact HF.out)
end Go.Proofs.Ytcfckhdohcaffaa
