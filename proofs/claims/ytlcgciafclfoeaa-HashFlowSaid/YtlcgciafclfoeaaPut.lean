/-
  The walk of addr.PutTuple: a tuple as bytes.
-/
import Derived.Test.YtlcgciafclfoeaaPcs
import Derived.Test.YtlcgciafclfoeaaLayC
namespace Go.Proofs.Ytlcgciafclfoeaa
open Go.RowKit
attribute [local go_sem ↓] exec_span exec_put exec_build heap_alloc_new heap_old
theorem built_valN (n : Int) : Try.prog.built 61 [(0, .int .u64 n)] = some #[.int .u64 n, .slice none 0 0] := by kernel_rfl
theorem built_valB (A : Option Addr) (n c : Nat) : Try.prog.built 61 [(1, .slice A n c)] = some #[.int .u64 0, .slice A n c] := by kernel_rfl
attribute [local go_sem] built_valN built_valB
attribute [local go_sem] spanQ_ptr spanC_some heap_of_drew heap_of_drewN rs_arr rs_ad rs_tup putAt_ptr putOk_ptr oldOk_some built_none World.setRow_alloc_new
set_option maxRecDepth 100000
set_option linter.unusedVariables false

/-- what is laid of a tuple. -/
def tupIts (g : Nat) (vn pn sn dn : Nat) (sb db : List UInt8) : List VItem := [⟨vn, .slice none 0 0, []⟩, ⟨pn, .slice none 0 0, []⟩, ⟨0, .slice (some ⟨g, 1, none⟩) 16 16, sb⟩, ⟨0, .slice (some ⟨g, 18, none⟩) 16 16, db⟩, ⟨sn, .slice none 0 0, []⟩, ⟨dn, .slice none 0 0, []⟩]
theorem RdV.lit (w : World) (its : List VItem) (cs : Array Value) (t : TypeId) (fr : Nat × Nat) (hcs : cs = (itemCells its).toArray) : RdV (w.alloc (.cells cs t fr)) (w.heap.size + 1) (some ⟨w.heap.size, 0, none⟩) its := fun _ =>
  ⟨w.heap.size, 0, rfl, Nat.lt_succ_self _, fun i hi => by
    subst hcs
    obtain ⟨h1, h2⟩ := itemCells_get its i hi
    have hb := heap_alloc_new w (.cells (itemCells its).toArray t fr)
    rw [cell_of_row _ w.heap.size (0 + i * 2) _ t fr hb, cell_of_row _ w.heap.size (0 + i * 2 + 1) _ t fr hb]
    simp only [Nat.zero_add, List.getElem?_toArray]
    exact ⟨h1, h2⟩⟩
theorem RdV.below {w w' : World} {its : List VItem} {cs : Array Value} {t : TypeId} {fr : Nat × Nat} (hb : Below (w.alloc (.cells cs t fr)).drew.heap.size (w.alloc (.cells cs t fr)).drew w') (hcs : cs = (itemCells its).toArray) : RdV w' w'.heap.size (some ⟨w.heap.size, 0, none⟩) its :=
  (RdV.lit w its cs t fr hcs).keep (by have := hb.size; simp at this; omega) (fun p hp => hb.cell (by simpa using hp))
theorem RdV.alloc {w : World} {its : List VItem} {cs : Array Value} {t : TypeId} {fr : Nat × Nat} (hcs : cs = (itemCells its).toArray) : RdV (w.alloc (.cells cs t fr)) (w.alloc (.cells cs t fr)).heap.size (some ⟨w.heap.size, 0, none⟩) its :=
  (RdV.lit w its cs t fr hcs).keep (by simp) (fun _ _ => rfl)
theorem Ops.alloc {w : World} {B : Nat} {A : Option Addr} {l : List (Int × Int)} (h : Ops w B A l) (hB : B ≤ w.heap.size) (o : Obj) : Ops (w.alloc o) (w.alloc o).heap.size A l := h.keep (by simp; omega) (fun p hp => World.cell?_alloc_lt _ _ _ (by omega))
theorem TuV.bytS {X : Array Value} {t : Tup} (h : TuV X t) {w : World} {g : Nat} {ty : TypeId} {B : Nat} (hg : w.heap[g]? = some (.cells X ty (0, 0))) (hB : g < B) : Byt w B (some ⟨g, 1, none⟩) t.sb := fun _ =>
  ⟨g, 1, rfl, hB, fun i hi => by
    rw [cell_of_row w g (1 + i) X ty (0, 0) hg, h.eq]
    simp only [List.getElem?_toArray, tupL]
    rw [List.getElem?_append_left (by rw [length_adL h.ls]; have := h.ls; omega), Nat.add_comm 1]
    simp [adL, byteV, hi]⟩
theorem TuV.bytD {X : Array Value} {t : Tup} (h : TuV X t) {w : World} {g : Nat} {ty : TypeId} {B : Nat} (hg : w.heap[g]? = some (.cells X ty (0, 0))) (hB : g < B) : Byt w B (some ⟨g, 18, none⟩) t.db := fun _ =>
  ⟨g, 18, rfl, hB, fun i hi => by
    rw [cell_of_row w g (18 + i) X ty (0, 0) hg, h.eq]
    simp only [List.getElem?_toArray, tupL]
    rw [List.getElem?_append_right (by rw [length_adL h.ls]; omega), length_adL h.ls, List.getElem?_append_left (by rw [length_adL h.ld]; have := h.ld; omega), show 18 + i - 17 = i + 1 by omega]
    simp [adL, byteV, hi]⟩
theorem numB1 (n : Nat) : numBytes n 1 1 = [UInt8.ofNat n] := by simp [numBytes]
theorem lay_tupB {sv dv : Bool} {pn sn dn : Nat} {sb db : List UInt8} (g vn : Nat) (hv : vn = if sv then 6 else 4) (hs : sb.length = 16) (hd : db.length = 16) (hp : pn ≤ 17) (hsn : sn ≤ 65535) (hdn : dn ≤ 65535) :
    layR ((tupIts g vn pn sn dn sb db).map fun it => (it.N, it.b)) tupOps = (tupB ⟨sv, sb, dv, db, pn, sn, dn⟩, 0) := by
  have hv8 : vn < 256 := by rw [hv]; split <;> decide
  have e1 : UInt8.ofNat vn = if sv then 6 else 4 := by rw [hv]; cases sv <;> rfl
  simp only [tupIts, List.map_cons, List.map_nil, tupOps, layR, List.length_cons, List.length_nil, List.zip_cons_cons, List.zip_nil_right]
  rw [if_neg (by decide), if_neg (by decide)]
  simp only [layS, fitsS, putS, List.length_nil, hs, hd]
  simp [numB1, numB2, hv8, hs, hd, show pn < 256 by omega, show sn < 65536 by omega, show dn < 65536 by omega, e1, tupB]

set_option maxHeartbeats 2000000 in
theorem puttuple_any (w : World) (X : Array Value) (t : Tup) (h : TuV X t) :
    Calls Try.prog 26 #[.agg X] w fun e w' => (∃ A c, e = .returned (.tuple #[.slice A (putB t).length c, .int .i64 (putE t)]) ∧ Byt w' w'.heap.size A (putB t) ∧ (putB t).length ≤ c ∧ (A = none → c = 0)) ∧ Below w.heap.size w w' := by
  go_enter Try.func26, Try.ntmps26
  have hxs := h.size
  have hxr := h.x0
  obtain ⟨W, hW, h1, hz, hb⟩ := one_block w (.cells X 36)
  have hrt := hide (fun W => righttuple_any W X t h)
  have hB := hide hb
  have hlt : Hid (W.heap.size = w.heap.size + 1) := hide hz
  have H1 := hide h1
  clear hz hb
  obtain ⟨R, hR⟩ : ∃ R, R = rightT t := ⟨_, rfl⟩
  rw [← hR] at hrt
  have HR := hide hR
  clear hR
  cases R
  · have hE := hide (show putE t = 1 by unfold putE; rw [← HR.out]; rfl)
    have hBB := hide (show putB t = [] by unfold putB; rw [← HR.out]; rfl)
    go_wp2_with (go_at_call 31; refine (hrt.out _).mono ?_; rintro e w2 ⟨rfl, hb2⟩)
    go_ret2
    refine ⟨⟨none, 0, by rw [hBB.out, hE.out]; rfl, by rw [hBB.out]; exact Byt.nil _ _ _, by rw [hBB.out]; exact Nat.le_refl _, fun _ => rfl⟩, hB.out.trans (hb2.mono (by have := hlt.out; omega))⟩
  · have hE := hide (show putE t = 0 by unfold putE; rw [← HR.out]; rfl)
    have hBB := hide (show putB t = tupB t by unfold putB; rw [← HR.out]; rfl)
    have hX := hide h
    have hP : protoOk t.p = true ∧ portOk t.s = true ∧ portOk t.d = true := by
      have := HR.out.symm
      unfold rightT at this
      simp only [Bool.and_eq_true] at this
      exact ⟨this.1.1.2, this.1.2, this.2⟩
    go_wp2_with fail
    refine (hrt.out _).mono ?_
    rintro e w2 ⟨rfl, hb2⟩
    have h12 := row_kept hb2 (by have := hlt.out; omega) H1.out
    obtain ⟨k1, k2, k3, k4, k5⟩ := hX.out.cells h12
    obtain ⟨sv, sb, dv, db, p, s, d⟩ := t
    simp only at k1 k2 k3 k4 k5 hP
    have hlw2 : Hid (w.heap.size < w2.heap.size) := hide (by have := hlt.out; have := hb2.size; omega)
    obtain ⟨pn, rfl, hpn⟩ : ∃ n : Nat, p = (n : Int) ∧ n ≤ 17 := by
      have := hP.1
      unfold protoOk at this
      simp at this
      rcases this with rfl | rfl
      · exact ⟨6, rfl, by omega⟩
      · exact ⟨17, rfl, by omega⟩
    have hport : ∀ n : Int, portOk n = true → ∃ m : Nat, n = (m : Int) ∧ m ≤ 65535 := fun n h => by
      unfold portOk at h
      simp at h
      exact ⟨n.toNat, by omega, by omega⟩
    obtain ⟨sn, rfl, hsn⟩ := hport s hP.2.1
    obtain ⟨dn, rfl, hdn⟩ := hport d hP.2.2
    clear hP hport
    obtain ⟨G, hG⟩ : ∃ G, G = w.heap.size := ⟨_, rfl⟩
    have hkeep : ∀ w' : World, Below w2.heap.size w2 w' → w'.heap[w.heap.size]? = some (.cells X 36 (0, 0)) ∧ w'.cell? ⟨w.heap.size, 34, none⟩ = some (.int .i64 (pn : Int)) ∧ w'.cell? ⟨w.heap.size, 35, none⟩ = some (.int .i64 (sn : Int)) ∧ w'.cell? ⟨w.heap.size, 36, none⟩ = some (.int .i64 (dn : Int)) := fun w' hb => by
      have hr := row_kept hb (by have := hlw2.out; omega) h12
      obtain ⟨_, _, q3, q4, q5⟩ := hX.out.cells hr
      exact ⟨hr, q3, q4, q5⟩
    have HKEEP := hide hkeep
    have hlay : ∀ (W' : World) (bv bo vn : Nat), vn = (if sv then 6 else 4) → Below w2.heap.size w2 W' → RdV W' W'.heap.size (some ⟨bv, 0, none⟩) (tupIts w.heap.size vn pn sn dn sb db) → Ops W' W'.heap.size (some ⟨bo, 0, none⟩) tupOps →
        Calls Try.prog 32 #[.slice (some ⟨bv, 0, none⟩) 6 6, .slice (some ⟨bo, 0, none⟩) 6 6] W' fun e w' => ∃ A c, e = .returned (.tuple #[.slice A (tupB ⟨sv, sb, dv, db, pn, sn, dn⟩).length c, .int .i64 0]) ∧ OwnB w' W'.heap.size (.slice A (tupB ⟨sv, sb, dv, db, pn, sn, dn⟩).length c) (tupB ⟨sv, sb, dv, db, pn, sn, dn⟩) ∧ Below W'.heap.size W' w' := fun W' bv bo vn hvn hb hv ho => by
      have hr := row_kept hb (by have := hlw2.out; omega) h12
      have hlt' : w.heap.size < W'.heap.size := by have := hb.size; have := hlw2.out; omega
      refine lay_any W' _ _ 6 6 (tupIts w.heap.size vn pn sn dn sb db) tupOps hv ?_ ho (tupB ⟨sv, sb, dv, db, pn, sn, dn⟩, 0) (lay_tupB (sv := sv) (dv := dv) _ _ hvn hX.out.ls hX.out.ld hpn hsn hdn).symm
      intro it hit
      simp only [tupIts, List.mem_cons, List.not_mem_nil, or_false] at hit
      rcases hit with rfl | rfl | rfl | rfl | rfl | rfl
      · exact ⟨none, 0, rfl, Byt.nil _ _ _, fun _ => rfl⟩
      · exact ⟨none, 0, rfl, Byt.nil _ _ _, fun _ => rfl⟩
      · exact ⟨_, 16, by rw [hX.out.ls], hX.out.bytS hr hlt', fun e => by cases e⟩
      · exact ⟨_, 16, by rw [hX.out.ld], hX.out.bytD hr hlt', fun e => by cases e⟩
      · exact ⟨none, 0, rfl, Byt.nil _ _ _, fun _ => rfl⟩
      · exact ⟨none, 0, rfl, Byt.nil _ _ _, fun _ => rfl⟩
    have HLAY := hide hlay
    obtain ⟨L, hL⟩ : ∃ L, L = (tupB ⟨sv, sb, dv, db, (pn : Int), (sn : Int), (dn : Int)⟩) := ⟨_, rfl⟩
    rw [← hL] at hBB HLAY
    have HB2 : Hid (Below w.heap.size w w2) := hide (hB.out.trans (hb2.mono (by have := hlt.out; omega)))
    have hfin : ∀ (w3 w' : World) (A : Option Addr) (c : Nat), OwnB w' w3.heap.size (.slice A L.length c) L → Below w2.heap.size w2 w' → (∃ A' c', Ending.returned (.tuple #[.slice A L.length c, .int .i64 0]) = .returned (.tuple #[.slice A' (putB ⟨sv, sb, dv, db, (pn : Int), (sn : Int), (dn : Int)⟩).length c', .int .i64 (putE ⟨sv, sb, dv, db, (pn : Int), (sn : Int), (dn : Int)⟩)]) ∧ Byt w' w'.heap.size A' (putB ⟨sv, sb, dv, db, (pn : Int), (sn : Int), (dn : Int)⟩) ∧ (putB ⟨sv, sb, dv, db, (pn : Int), (sn : Int), (dn : Int)⟩).length ≤ c' ∧ (A' = none → c' = 0)) ∧ Below w.heap.size w w' := fun w3 w' A c ho hb => by
      rw [hBB.out, hE.out]
      obtain ⟨A', c', e, h1, h2, h3, _⟩ := ho.shape
      injection e with e1 e2 e3
      subst e1; subst e3
      exact ⟨⟨A, c, rfl, h2, h1, h3⟩, HB2.out.trans (hb.mono HB2.out.size)⟩
    have HFIN := hide hfin
    clear hkeep hlay hL hfin hG h12 hb2 h hrt k2
    have hwp : IntKind.u64.wrap (pn : Int) = (pn : Int) := wrap_u _ (by omega) (by omega)
    have hws : IntKind.u64.wrap (sn : Int) = (sn : Int) := wrap_u _ (by omega) (by omega)
    have hwd : IntKind.u64.wrap (dn : Int) = (dn : Int) := wrap_u _ (by omega) (by omega)
    cases sv
    · dsimp only
      go_wp2_with fail
      go_region_held3 (fun w' => w'.cell? ⟨w.heap.size, 34, none⟩ = some (.int .i64 (pn : Int)) ∧ w'.cell? ⟨w.heap.size, 35, none⟩ = some (.int .i64 (sn : Int)) ∧ w'.cell? ⟨w.heap.size, 36, none⟩ = some (.int .i64 (dn : Int)))
        (first | exact ⟨k3, k4, k5⟩ | go_keep)
        (first
          | (go_at_call 33; (refine (pieces_any w2.drew w2.heap.size rfl).mono ?_); rintro e w3 ⟨rfl, hops, hb3, hz3⟩; have HB3 : Hid (Below w2.heap.size w2 w3) := hide (below_undrew hb3); have hoB := hide hops; have HZ3 := hide hz3; obtain ⟨_, q3, q4, q5⟩ := HKEEP.out w3 HB3.out; clear hops hz3)
          | (go_at_call 33; (refine (pieces_any _ (w2.heap.size + 1) (by simp)).mono ?_); rintro e w3 ⟨rfl, hops, hb3, hz3⟩; have HB3 : Hid (Below w2.heap.size w2 w3) := hide (((Below.refl w2.heap.size w2).alloc (Nat.le_refl _) _).trans ((below_undrew hb3).mono (by simp))); have hvA : RdV w3 w3.heap.size (some ⟨w2.heap.size, 0, none⟩) (tupIts w.heap.size 4 pn sn dn sb db) := RdV.below hb3 rfl; have hoA : Ops w3 w3.heap.size (some ⟨w2.heap.size + 1, 0, none⟩) tupOps := hops.keep (Nat.le_of_eq hz3.symm) (fun _ _ => rfl); obtain ⟨_, q3, q4, q5⟩ := HKEEP.out w3 HB3.out; clear hops hz3)
          | (go_at_call 32; (with_reducible refine (HLAY.out w3 _ _ 4 rfl HB3.out hvA hoA).mono ?_); rintro e w4 ⟨A, c, rfl, ho4, hb4⟩; have HO4 := hide ho4; have HB4 : Hid (Below w2.heap.size w2 w4) := hide (HB3.out.trans (hb4.mono HB3.out.size)); obtain ⟨_, r3, r4, r5⟩ := HKEEP.out w4 HB4.out; clear ho4)
          | (go_at_call 32; (refine (HLAY.out _ w3.heap.size w2.heap.size 4 rfl (HB3.out.alloc HB3.out.size _) (by exact RdV.alloc rfl) (by exact hoB.out.alloc (Nat.le_of_eq HZ3.out.symm) _)).mono ?_); rintro e w4 ⟨A, c, rfl, ho4, hb4⟩; have HO4 := hide ho4; have HB4 : Hid (Below w2.heap.size w2 w4) := hide ((HB3.out.alloc HB3.out.size _).trans (hb4.mono (by have := HB3.out.size; simp; omega))); obtain ⟨_, r3, r4, r5⟩ := HKEEP.out w4 HB4.out; clear ho4)
          | fail)
      all_goals
        go_wp2
        go_ret2
        exact HFIN.out _ _ _ _ HO4.out HB4.out
    · dsimp only
      go_wp2_with fail
      go_region_held3 (fun w' => w'.cell? ⟨w.heap.size, 34, none⟩ = some (.int .i64 (pn : Int)) ∧ w'.cell? ⟨w.heap.size, 35, none⟩ = some (.int .i64 (sn : Int)) ∧ w'.cell? ⟨w.heap.size, 36, none⟩ = some (.int .i64 (dn : Int)))
        (first | exact ⟨k3, k4, k5⟩ | go_keep)
        (first
          | (go_at_call 33; (refine (pieces_any w2.drew w2.heap.size rfl).mono ?_); rintro e w3 ⟨rfl, hops, hb3, hz3⟩; have HB3 : Hid (Below w2.heap.size w2 w3) := hide (below_undrew hb3); have hoB := hide hops; have HZ3 := hide hz3; obtain ⟨_, q3, q4, q5⟩ := HKEEP.out w3 HB3.out; clear hops hz3)
          | (go_at_call 33; (refine (pieces_any _ (w2.heap.size + 1) (by simp)).mono ?_); rintro e w3 ⟨rfl, hops, hb3, hz3⟩; have HB3 : Hid (Below w2.heap.size w2 w3) := hide (((Below.refl w2.heap.size w2).alloc (Nat.le_refl _) _).trans ((below_undrew hb3).mono (by simp))); have hvA : RdV w3 w3.heap.size (some ⟨w2.heap.size, 0, none⟩) (tupIts w.heap.size 6 pn sn dn sb db) := RdV.below hb3 rfl; have hoA : Ops w3 w3.heap.size (some ⟨w2.heap.size + 1, 0, none⟩) tupOps := hops.keep (Nat.le_of_eq hz3.symm) (fun _ _ => rfl); obtain ⟨_, q3, q4, q5⟩ := HKEEP.out w3 HB3.out; clear hops hz3)
          | (go_at_call 32; (with_reducible refine (HLAY.out w3 _ _ 6 rfl HB3.out hvA hoA).mono ?_); rintro e w4 ⟨A, c, rfl, ho4, hb4⟩; have HO4 := hide ho4; have HB4 : Hid (Below w2.heap.size w2 w4) := hide (HB3.out.trans (hb4.mono HB3.out.size)); obtain ⟨_, r3, r4, r5⟩ := HKEEP.out w4 HB4.out; clear ho4)
          | (go_at_call 32; (refine (HLAY.out _ w3.heap.size w2.heap.size 6 rfl (HB3.out.alloc HB3.out.size _) (by exact RdV.alloc rfl) (by exact hoB.out.alloc (Nat.le_of_eq HZ3.out.symm) _)).mono ?_); rintro e w4 ⟨A, c, rfl, ho4, hb4⟩; have HO4 := hide ho4; have HB4 : Hid (Below w2.heap.size w2 w4) := hide ((HB3.out.alloc HB3.out.size _).trans (hb4.mono (by have := HB3.out.size; simp; omega))); obtain ⟨_, r3, r4, r5⟩ := HKEEP.out w4 HB4.out; clear ho4)
          | fail)
      all_goals
        go_wp2
        go_ret2
        exact HFIN.out _ _ _ _ HO4.out HB4.out
end Go.Proofs.Ytlcgciafclfoeaa
