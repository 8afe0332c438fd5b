/-
  The walks of segment.piecesTcp, of the head of a segment of TCP, of segment.Put of TCP.
-/
import Derived.Test.YtdmlgogjipcggaaKe
namespace Go.Proofs.Ytdmlgogjipcggaa
open Go.RowKit
attribute [local go_sem ↓] exec_span exec_put exec_build heap_alloc_new heap_old
attribute [local go_sem] spanQ_ptr spanC_some heap_of_drew heap_of_drewN rs_arr rs_ad rs_ip rs_rip rs_seg putAt_ptr putOk_ptr oldOk_some World.setRow_alloc_new
set_option maxRecDepth 100000
set_option linter.unusedVariables false
set_option linter.unusedSimpArgs false

def tcpN : List Nat := [2, 2, 4, 4, 1, 1, 2, 2, 2]
set_option maxHeartbeats 1000000 in
theorem piecesT_any (w : World) : Calls Try.prog 78 #[] w fun e w' => ∃ v, e = .returned v ∧ OwnO w' w.heap.size v (opsN tcpN) ∧ Below w.heap.size w w' := by
  have h := piecesN_any (w.alloc (.cells #[.int .i64 2, .int .i64 2, .int .i64 4, .int .i64 4, .int .i64 1, .int .i64 1, .int .i64 2, .int .i64 2, .int .i64 2] 3)) (some ⟨w.heap.size, 0, none⟩) 9 tcpN (by
    have := IntsAt.lit w .i64 [2, 2, 4, 4, 1, 1, 2, 2, 2] #[.int .i64 2, .int .i64 2, .int .i64 4, .int .i64 4, .int .i64 1, .int .i64 1, .int .i64 2, .int .i64 2, .int .i64 2] 3 rfl
    rwa [show (w.alloc (.cells #[.int .i64 2, .int .i64 2, .int .i64 4, .int .i64 4, .int .i64 1, .int .i64 1, .int .i64 2, .int .i64 2, .int .i64 2] 3)).heap.size = w.heap.size + 1 by simp]) (by simp [tcpN])
  have H := hide h
  clear h
  go_enter Try.func78, Try.ntmps78
  go_wp2_with fail
  refine H.out.mono ?_
  rintro e w2 ⟨v, rfl, ho, hb⟩
  have hb2 : Below w.heap.size w w2 := ((Below.refl w.heap.size w).alloc (Nat.le_refl _) _).trans (hb.mono (by simp))
  have ho2 : OwnO w2 w.heap.size v (opsN tcpN) := own_low ho (by simp)
  have H1 := hide hb2
  have H2 := hide ho2
  clear hb2 ho2 ho hb
  go_wp2
  go_ret
  exact ⟨_, rfl, H2.out, H1.out⟩

def tcpF (an bn q k no fn wn un : Nat) : List (Nat × Nat) := [(2, an), (2, bn), (4, q), (4, k), (1, (20 + no) / 4 * 16), (1, fn), (2, wn), (2, 0), (2, un)]
theorem tcpF_zip (an bn q k no fn wn un : Nat) : tcpN.zip [an, bn, q, k, (20 + no) / 4 * 16, fn, wn, 0, un] = tcpF an bn q k no fn wn un := rfl
def tcpI (an bn q k M fn wn un : Nat) : List Int := [(an : Int), (bn : Int), (q : Int), (k : Int), (M : Int), (fn : Int), (wn : Int), 0, (un : Int)]
theorem layT_any (W1 : World) (an bn q k no fn wn un : Nat) (Al Av : Option Addr) (cl : Nat) (ho : Ops W1 W1.heap.size Al (opsN tcpN)) (hi : IntsAt W1 W1.heap.size Av .u64 (tcpI an bn q k ((20 + no) / 4 * 16) fn wn un)) (ha : an ≤ 65535) (hb : bn ≤ 65535) (hq : q < 4294967296) (hk : k < 4294967296) (hn : no ≤ 40) (hf : fn ≤ 255) (hw : wn ≤ 65535) (hu : un ≤ 65535) :
    Calls Try.prog 87 #[.slice Al 9 cl, .slice Av 9 9] W1 fun e w' => ∃ v, e = .returned v ∧ OwnB w' W1.heap.size v (fldB (tcpF an bn q k no fn wn un)) ∧ Below W1.heap.size W1 w' := by
  have h := layN_any W1 Av Al 9 cl [an, bn, q, k, (20 + no) / 4 * 16, fn, wn, 0, un] tcpN ho hi (by simp) rfl (by
    intro f hf'
    rw [tcpF_zip] at hf'
    simp [tcpF] at hf'
    rcases hf' with rfl | rfl | rfl | rfl | rfl | rfl | rfl | rfl | rfl <;> simp <;> omega)
  rw [tcpF_zip] at h
  exact h.mono fun e w' ⟨A', c', h1, h2, h3⟩ => ⟨_, h1, h2, h3⟩
set_option maxHeartbeats 4000000 in
theorem headT_any (w : World) (X : Array Value) (s : Sg) (x : SgV X s) (hp : s.p = 6) (hno : s.no ≤ 40) (an bn fn wn un : Nat) (ha : s.a = (an : Int)) (ha2 : an ≤ 65535) (hb : s.b = (bn : Int)) (hb2 : bn ≤ 65535) (hf : s.f = (fn : Int)) (hf2 : fn ≤ 255) (hw : s.wn = (wn : Int)) (hw2 : wn ≤ 65535) (hu : s.u = (un : Int)) (hu2 : un ≤ 65535) :
    Calls Try.prog 65 #[.agg X] w fun e w' => ∃ v, e = .returned v ∧ OwnB w' w.heap.size v (fldB (tcpF an bn s.q s.k s.no fn wn un)) ∧ Below w.heap.size w w' := by
  have hxs := x.size
  have hxr := x.x0
  obtain ⟨W, hW, h1, hz, hbW⟩ := one_block w (.cells X 88)
  have HXC := hide (fun (W1 : World) (r : W1.heap[w.heap.size]? = some (.cells X 88 (0, 0))) => x.cells r)
  have hkeep := hide (fun (W1 : World) (b : Below W.heap.size W W1) => ((b.block w.heap.size (by omega)).trans h1 : W1.heap[w.heap.size]? = some (.cells X 88 (0, 0))))
  have hq0 := x.hq
  have hk0 := x.hk
  obtain ⟨q, hq⟩ : ∃ v, v = s.q := ⟨_, rfl⟩
  obtain ⟨k, hk⟩ : ∃ v, v = s.k := ⟨_, rfl⟩
  obtain ⟨no, hnn⟩ : ∃ v, v = s.no := ⟨_, rfl⟩
  have HC : Hid (∀ W1 : World, Below W.heap.size W W1 → W1.cell? ⟨w.heap.size, 0, none⟩ = some (.int .i64 6) ∧ W1.cell? ⟨w.heap.size, 1, none⟩ = some (.int .i64 (an : Int)) ∧ W1.cell? ⟨w.heap.size, 2, none⟩ = some (.int .i64 (bn : Int)) ∧ W1.cell? ⟨w.heap.size, 3, none⟩ = some (.int .u32 (q : Int)) ∧ W1.cell? ⟨w.heap.size, 4, none⟩ = some (.int .u32 (k : Int)) ∧ W1.cell? ⟨w.heap.size, 5, none⟩ = some (.int .i64 (fn : Int)) ∧ W1.cell? ⟨w.heap.size, 6, none⟩ = some (.int .i64 (wn : Int)) ∧ W1.cell? ⟨w.heap.size, 7, none⟩ = some (.int .i64 (un : Int)) ∧ W1.cell? ⟨w.heap.size, 9, none⟩ = some (.slice s.ao no s.co)) := hide (fun W1 hb1 => by
    obtain ⟨c0, c1, c2, c3, c4, c5, c6, c7, c8, c9, c10⟩ := HXC.out W1 (hkeep.out W1 hb1)
    rw [← hp, ← ha, ← hb, ← hf, ← hw, ← hu, hq, hk, hnn]
    exact ⟨c0, c1, c2, c3, c4, c5, c6, c7, c9⟩)
  rw [← hq, ← hk, ← hnn]
  rw [← hq] at hq0
  rw [← hk] at hk0
  rw [← hnn] at hno
  obtain ⟨c0, c1, c2, c3, c4, c5, c6, c7, c9⟩ := HC.out W (Below.refl _ _)
  obtain ⟨d0, d1, d2, d3, d4, d5, d6, d7, d9⟩ := HC.out W.drew (Below.refl _ _).drew
  have KL := fun (W1 : World) Al Av cl (ho : Ops W1 W1.heap.size Al (opsN tcpN)) hi => layT_any W1 an bn q k no fn wn un Al Av cl ho hi ha2 hb2 hq0 hk0 hno hf2 hw2 hu2
  obtain ⟨wd, hwd⟩ : ∃ v, v = (20 + no) / 4 := ⟨_, rfl⟩
  have hq4 : (20 + (no : Int)) / 4 = (wd : Int) := by omega
  rw [← hwd] at KL
  obtain ⟨M, hMM⟩ : ∃ v, v = wd * 16 := ⟨_, rfl⟩
  have hsh : (wd : Int) * 16 = (M : Int) := by omega
  have hM9 : M ≤ 240 := by omega
  have hwM : IntKind.u64.wrap (M : Int) = (M : Int) := IntWalk.u64_in _ (by omega)
  rw [← hMM] at KL
  have KL := hide KL
  clear hwd hMM
  have hwa : IntKind.u64.wrap (an : Int) = (an : Int) := IntWalk.u64_in _ (by omega)
  have hwb : IntKind.u64.wrap (bn : Int) = (bn : Int) := IntWalk.u64_in _ (by omega)
  have hwf : IntKind.u64.wrap (fn : Int) = (fn : Int) := IntWalk.u64_in _ (by omega)
  have hww : IntKind.u64.wrap (wn : Int) = (wn : Int) := IntWalk.u64_in _ (by omega)
  have hwu : IntKind.u64.wrap (un : Int) = (un : Int) := IntWalk.u64_in _ (by omega)
  have hwq : IntKind.u64.wrap (q : Int) = (q : Int) := IntWalk.u64_in _ (by omega)
  have hwk : IntKind.u64.wrap (k : Int) = (k : Int) := IntWalk.u64_in _ (by omega)
  have HB := hide hbW
  clear hbW hz ha hb hf hw hu hp hq hk hnn x HXC hkeep h1 hxs hxr
  go_enter Try.func65, Try.ntmps65
  go_wp2_with fail
  go_region_held3 (fun w' => w'.cell? ⟨w.heap.size, 1, none⟩ = some (.int .i64 (an : Int)) ∧ w'.cell? ⟨w.heap.size, 2, none⟩ = some (.int .i64 (bn : Int)))
    (first | exact ⟨d1, d2⟩ | exact ⟨c1, c2⟩ | fail) (fail)
  all_goals (
    go_upto_region 5 with (fail)
    rw [hq4]
    clear c0 c1 c2 c9 d0 d1 d2 d9
    obtain ⟨LIT, hLIT⟩ : ∃ L : Array Value, L = #[.int .u64 (an : Int), .int .u64 (bn : Int), .int .u64 (q : Int), .int .u64 (k : Int), .int .u64 (M : Int), .int .u64 (fn : Int), .int .u64 (wn : Int), .int .u64 0, .int .u64 (un : Int)] := ⟨_, rfl⟩
    have HLIE := hide hLIT
    have HLIT : Hid (LIT = ((tcpI an bn q k M fn wn un).map fun z => Value.int .u64 z).toArray) := hide (by rw [hLIT]; rfl)
    clear hLIT
    have HC5 : Hid (∀ W1 : World, Below W.heap.size W W1 → W1.cell? ⟨w.heap.size, 3, none⟩ = some (.int .u32 (q : Int)) ∧ W1.cell? ⟨w.heap.size, 4, none⟩ = some (.int .u32 (k : Int)) ∧ W1.cell? ⟨w.heap.size, 5, none⟩ = some (.int .i64 (fn : Int)) ∧ W1.cell? ⟨w.heap.size, 6, none⟩ = some (.int .i64 (wn : Int)) ∧ W1.cell? ⟨w.heap.size, 7, none⟩ = some (.int .i64 (un : Int))) := hide (fun W1 b => by obtain ⟨-, -, -, a3, a4, a5, a6, a7, -⟩ := HC.out W1 b; exact ⟨a3, a4, a5, a6, a7⟩)
    go_region_held3 (fun w' => w'.cell? ⟨w.heap.size, 3, none⟩ = some (.int .u32 (q : Int)) ∧ w'.cell? ⟨w.heap.size, 4, none⟩ = some (.int .u32 (k : Int)) ∧ w'.cell? ⟨w.heap.size, 5, none⟩ = some (.int .i64 (fn : Int)) ∧ w'.cell? ⟨w.heap.size, 6, none⟩ = some (.int .i64 (wn : Int)) ∧ w'.cell? ⟨w.heap.size, 7, none⟩ = some (.int .i64 (un : Int)))
      (first | exact ⟨c3, c4, c5, c6, c7⟩ | exact ⟨d3, d4, d5, d6, d7⟩ | exact ⟨e3, e4, e5, e6, e7⟩ | exact ⟨f3, f4, f5, f6, f7⟩ | exact HC5.out _ (B2.out.alloc B2.out.size _) | exact HC5.out _ ((Below.refl _ _).alloc (Nat.le_refl _) _).drew | exact HC5.out _ ((Below.refl _ _).alloc (Nat.le_refl _) _).drew.drew | exact HC5.out _ ((Below.refl _ _).alloc (Nat.le_refl _) _) | fail)
      (first
        | (go_at_call 78; (with_reducible refine (piecesT_any W.drew.drew).mono ?_); rintro e w2 ⟨v2, rfl, o2, b2⟩
           have B2 : Hid (Below W.heap.size W w2) := hide (below_undrew' (below_undrew' b2))
           obtain ⟨Al, cl, ev, hop, -⟩ := o2.shape
           have ev' : v2 = .slice Al 9 cl := ev
           subst ev'
           clear ev
           obtain ⟨-, -, -, e3, e4, e5, e6, e7, -⟩ := HC.out w2 B2.out
           have hi2 : IntsAt (w2.alloc (.cells LIT 74)) (w2.alloc (.cells LIT 74)).heap.size (some ⟨w2.heap.size, 0, none⟩) .u64 (tcpI an bn q k M fn wn un) := by
             have := IntsAt.lit w2 .u64 (tcpI an bn q k M fn wn un) LIT 74 HLIT.out
             rwa [show (w2.alloc (.cells LIT 74)).heap.size = w2.heap.size + 1 by simp]
           have b0 : Below w2.heap.size w2 (w2.alloc (.cells LIT 74)) := (Below.refl _ _).alloc (Nat.le_refl _) _
           have KL2 := hide ((KL.out (w2.alloc (.cells LIT 74)) Al (some ⟨w2.heap.size, 0, none⟩) cl (hop.more b0.size b0) hi2).mono fun e w' (h : ∃ v, e = .returned v ∧ OwnB w' (w2.alloc (.cells LIT 74)).heap.size v _ ∧ Below _ _ w') => (by obtain ⟨v, p1, p2, p3⟩ := h; exact ⟨v, p1, own_low p2 b0.size, b0.trans (p3.mono b0.size)⟩ : ∃ v, e = .returned v ∧ OwnB w' w2.heap.size v (fldB (tcpF an bn q k no fn wn un)) ∧ Below w2.heap.size w2 w'))
           rw [HLIE.out] at KL2
           clear b2 o2 hop hi2 b0)
        | (go_at_call 78; (with_reducible refine (piecesT_any (W.alloc _).drew.drew).mono ?_); rintro e w2 ⟨v2, rfl, o2, b2⟩
           have b0 : Below W.heap.size W (W.alloc (.cells LIT 74)).drew.drew := ((Below.refl _ _).alloc (Nat.le_refl _) _).drew.drew
           rw [← HLIE.out] at b2
           have B2 : Hid (Below W.heap.size W w2) := hide (b0.trans (b2.mono b0.size))
           obtain ⟨Al, cl, ev, hop, -⟩ := o2.shape
           have ev' : v2 = .slice Al 9 cl := ev
           subst ev'
           clear ev
           obtain ⟨-, -, -, e3, e4, e5, e6, e7, -⟩ := HC.out w2 B2.out
           have hi2 : IntsAt w2 w2.heap.size (some ⟨W.heap.size, 0, none⟩) .u64 (tcpI an bn q k M fn wn un) := by
             have h1 := IntsAt.lit W .u64 (tcpI an bn q k M fn wn un) LIT 74 HLIT.out
             have h2 : IntsAt w2 (W.heap.size + 1) (some ⟨W.heap.size, 0, none⟩) .u64 (tcpI an bn q k M fn wn un) := h1.below ((below_undrew' (below_undrew' b2)).mono (by simp))
             intro h0
             obtain ⟨b', o', r1, r2, r3⟩ := h2 h0
             exact ⟨b', o', r1, by have := b2.size; simp at this; omega, r3⟩
           have KL2 := hide (KL.out w2 Al (some ⟨W.heap.size, 0, none⟩) cl hop hi2)
           clear b2 o2 hop hi2 b0)
        | (go_at_call 87; (with_reducible refine (KL2.out).mono ?_); rintro e w4 ⟨v4, rfl, o4, b4⟩
           have B4 : Hid (Below W.heap.size W w4) := hide (B2.out.trans (b4.mono B2.out.size))
           obtain ⟨-, -, -, f3, f4, f5, f6, f7, -⟩ := HC.out w4 B4.out
           have O4 : Hid (OwnB w4 W.heap.size v4 (fldB (tcpF an bn q k no fn wn un))) := hide (own_low o4 B2.out.size)
           clear b4 o4)
        | fail)
    all_goals (
      go_wp2
      go_ret
      exact ⟨_, rfl, own_low O4.out HB.out.size, HB.out.trans (B4.out.mono HB.out.size)⟩))
end Go.Proofs.Ytdmlgogjipcggaa
