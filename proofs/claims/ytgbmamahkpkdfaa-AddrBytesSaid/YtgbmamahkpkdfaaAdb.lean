/-
  The walks of Bytes, the program's and the document's own.
-/
import Derived.Test.YtgbmamahkpkdfaaAdp
import Derived.Test.YtgbmamahkpkdfaaLent
namespace Go.Proofs.Ytgbmamahkpkdfaa
open Go.RowKit
attribute [local go_sem ↓] exec_span exec_put exec_build heap_alloc_new heap_old
attribute [local go_sem] spanQ_ptr spanC_some heap_of_drew rs_arr rs_ad putAt_ptr putOk_ptr oldOk_some built_none World.setRow_alloc_new
set_option maxRecDepth 100000
set_option linter.unusedVariables false

/-- an address's bytes, and the error. -/
def byB (v : Bool) (l : List UInt8) : List UInt8 := if rightL v l then l.take (sizeA v) else []
def byE (v : Bool) (l : List UInt8) : Int := if rightL v l then 0 else 1

theorem make_bytes (w : World) (n : Nat) (h : n ≤ 140737488355328) :
    (Instr.makeSlice 22 (.int .i64 (n : Int)) (.int .i64 (n : Int))).run Try.prog w = .ok (.slice (some ⟨w.heap.size, 0, none⟩) n n) (w.alloc (.cells (madeCells #[.int .u8 0] n) 5)) := by
  obtain ⟨i, hi, hz, hs, hb⟩ := info_parts info_u8
  have := run_make (P := Try.prog) w 22 5 i (.int .u8 0) Try.underlying22 hi hz .i64 .i64 (n : Int) (n : Int) (by omega) (by omega) (by rw [hb]; omega) (by omega)
  rw [this, hs]
  simp [Value.cells]

set_option maxHeartbeats 2000000 in
theorem bytes_any (w : World) (X : Array Value) (v : Bool) (l : List UInt8) (h : AdV X v l) :
    Calls Try.prog 87 #[.agg X] w fun e w' => (∃ A c, e = .returned (.tuple #[.slice A (byB v l).length c, .int .i64 (byE v l)]) ∧ Byt w' w'.heap.size A (byB v l) ∧ (byB v l).length ≤ c ∧ (A = none → c = 0)) ∧ Below w.heap.size w w' := by
  go_enter Try.func87, Try.ntmps87
  have hxs := h.size
  have hxr := h.x0
  obtain ⟨W, hW, h1, hz, hb⟩ := one_block w (.cells X 60)
  have hrt := hide (fun W => right_any W X v l h)
  have hsz := hide (fun W => size_any W X v l h)
  have hB := hide hb
  have hlt : Hid (W.heap.size = w.heap.size + 1) := hide hz
  have H1 := hide h1
  clear hz hb
  obtain ⟨R, hR⟩ : ∃ R, R = rightL v l := ⟨_, rfl⟩
  rw [← hR] at hrt
  have HR := hide hR
  clear hR
  cases R
  · have hE := hide (show byE v l = 1 by unfold byE; rw [← HR.out]; rfl)
    have hBB := hide (show byB v l = [] by unfold byB; rw [← HR.out]; rfl)
    go_wp2_with (go_at_call 84; refine (hrt.out _).mono ?_; rintro e w2 ⟨rfl, hb2⟩)
    go_ret2
    refine ⟨⟨none, 0, by rw [hBB.out, hE.out]; rfl, by rw [hBB.out]; exact Byt.nil _ _ _, by rw [hBB.out]; exact Nat.le_refl _, fun _ => rfl⟩, hB.out.trans (hb2.mono (by have := hlt.out; omega))⟩
  · obtain ⟨S, hS⟩ : ∃ S, S = sizeA v := ⟨_, rfl⟩
    have hS16 : S ≤ 16 := by rw [hS]; unfold sizeA; split <;> omega
    have hE := hide (show byE v l = 0 by unfold byE; rw [← HR.out]; rfl)
    have hBB := hide (show byB v l = l.take S by unfold byB; rw [← HR.out, hS]; rfl)
    rw [← hS] at hsz
    clear hS
    have hmk := fun W => make_bytes W S (by omega)
    have hl := h.len
    obtain ⟨Z, hZ⟩ : ∃ Z, Z = madeCells #[.int .u8 0] S := ⟨_, rfl⟩
    rw [← hZ] at hmk
    have HZ := hide hZ
    clear hZ
    go_wp2_with fail
    refine (hrt.out _).mono ?_
    rintro e w2 ⟨rfl, hb2⟩
    have h12 := row_kept hb2 (by have := hlt.out; omega) H1.out
    have hlt2 : Hid (W.heap.size ≤ w2.heap.size) := hide hb2.size
    go_wp2_with fail
    refine (hsz.out _).mono ?_
    rintro e w3 ⟨rfl, hb3⟩
    have h13 := row_kept hb3 (by have := hlt.out; have := hlt2.out; omega) h12
    have hlt3 : Hid (w2.heap.size ≤ w3.heap.size) := hide hb3.size
    have HB3 : Hid (Below w.heap.size w w3) := hide ((hB.out.trans (hb2.mono (by have := hlt.out; omega))).trans (hb3.mono (by have := hlt.out; have := hlt2.out; omega)))
    have hzr : (w3.alloc (.cells Z 5)).heap[w3.heap.size]? = some (.cells Z.toList.toArray 5 (0, 0)) := by
      have := heap_alloc_new w3 (.cells Z 5)
      simpa using this
    have HZR := hide hzr
    have hcs : ((l.take S).map byteV).length = Nat.min 16 S := by rw [List.length_map, List.length_take, hl]; exact Nat.min_comm _ _
    have hp : 0 < ((l.take S).map byteV).length → some (⟨w3.heap.size, 0, none⟩ : Addr) = some ⟨w3.heap.size, 0, none⟩ ∧ ∃ ad, some (⟨w.heap.size, 1, none⟩ : Addr) = some ad ∧ ∀ j x, ((l.take S).map byteV)[j]? = some x → (w3.alloc (.cells Z 5)).cell? (ad.add j) = some x := fun _ => by
      refine ⟨rfl, _, rfl, fun j x hj => ?_⟩
      rw [add_none, World.cell?_alloc_lt _ _ _ (by show w.heap.size < _; have := hlt.out; have := hlt2.out; have := hlt3.out; omega), cell_of_row w3 _ _ _ _ _ h13]
      obtain ⟨hjl, hjv⟩ := List.getElem?_eq_some_iff.1 hj
      rw [h.at j (by simp at hjl; omega), ← hjv]
      simp [byteV]
    have hfit : 0 + ((l.take S).map byteV).length ≤ Z.toList.length := by rw [HZ.out]; simp [size_madeCells]; omega
    have hspl : splice Z.toList 0 ((l.take S).map byteV) = (l.take S).map byteV := by
      unfold splice
      rw [List.take_zero, List.nil_append, List.drop_of_length_le (by rw [HZ.out, Array.length_toList, size_madeCells]; simp [hl]; omega), List.append_nil]
    have HP := hide hp
    have HS := hide hspl
    clear h12 h13 hb2 hb3 hzr hp hspl hrt hsz
    dsimp only
    go_wp2_with (with_reducible refine wpList_copy_splice rfl (.tmp 11) (.tmp 13) 22 22 rfl 5 Try.underlying22 (by kernel_rfl) (some ⟨w3.heap.size, 0, none⟩) (some ⟨w.heap.size, 1, none⟩) S S 16 16 rfl rfl w3.heap.size 0 Z.toList 5 HZR.out ((l.take S).map byteV) hcs HP.out hfit (byteV_one _) w3.heap.size w3 ((Below.refl _ w3).alloc (Nat.le_refl _) _) (Nat.le_refl _) ?_; intro w4 hg4 hb4)
    go_ret2
    rw [HS.out] at hg4
    have hlt4 : w3.heap.size < w4.heap.size := (Array.getElem?_eq_some_iff.1 hg4.out).1
    refine ⟨⟨some ⟨w3.heap.size, 0, none⟩, S, ?_, ?_, ?_, fun e => by cases e⟩, HB3.out.trans (hb4.mono HB3.out.size)⟩
    · rw [hBB.out, hE.out, show (l.take S).length = S by rw [List.length_take]; omega]; rfl
    · rw [hBB.out]
      exact fun _ => ⟨_, 0, rfl, hlt4, fun i hi => by rw [cell_of_row w4 _ _ _ _ _ hg4.out, Nat.zero_add, List.getElem?_toArray, List.getElem?_map, List.getElem?_eq_getElem hi]; rfl⟩
    · rw [hBB.out, List.length_take]; omega

theorem below_row {w w' : World} (h : Below w.heap.size w w') (row : Option Nat) : w.grownBy w' row := ⟨h.os, h.tape, h.output, h.size, fun k hk _ => h.block k hk⟩

set_option maxHeartbeats 4000000 in
theorem refbytes_any (w : World) (X : Array Value) (v : Bool) (l : List UInt8) (h : AdV X v l) :
    Calls Try.prog 94 #[.agg X] w fun e w' => (∃ A c, e = .returned (.tuple #[.slice A (byB v l).length c, .int .i64 (byE v l)]) ∧ Byt w' w'.heap.size A (byB v l) ∧ (byB v l).length ≤ c ∧ (A = none → c = 0)) ∧ Below w.heap.size w w' := by
  go_enter Try.func94, Try.ntmps94
  have hxs := h.size
  have hxr := h.x0
  obtain ⟨W, hW, h1, hz, hb⟩ := one_block w (.cells X 60)
  have hrt := hide (fun W => refright_any W X v l h)
  have hsz := hide (fun W => refsize_any W X v l h)
  have hB := hide hb
  have hlt : Hid (W.heap.size = w.heap.size + 1) := hide hz
  have H1 := hide h1
  clear hz hb
  obtain ⟨R, hR⟩ : ∃ R, R = rightL v l := ⟨_, rfl⟩
  rw [← hR] at hrt
  have HR := hide hR
  clear hR
  cases R
  · have hE := hide (show byE v l = 1 by unfold byE; rw [← HR.out]; rfl)
    have hBB := hide (show byB v l = [] by unfold byB; rw [← HR.out]; rfl)
    go_wp2_with (go_at_call 122; refine (hrt.out _).mono ?_; rintro e w2 ⟨rfl, hb2⟩)
    go_ret2
    refine ⟨⟨none, 0, by rw [hBB.out, hE.out]; rfl, by rw [hBB.out]; exact Byt.nil _ _ _, by rw [hBB.out]; exact Nat.le_refl _, fun _ => rfl⟩, hB.out.trans (hb2.mono (by have := hlt.out; omega))⟩
  · obtain ⟨S, hS⟩ : ∃ S, S = sizeA v := ⟨_, rfl⟩
    have hS16 : S ≤ 16 := by rw [hS]; unfold sizeA; split <;> omega
    have hE := hide (show byE v l = 0 by unfold byE; rw [← HR.out]; rfl)
    have hBB := hide (show byB v l = l.take S by unfold byB; rw [← HR.out, hS]; rfl)
    rw [← hS] at hsz
    clear hS
    have hl := h.len
    go_wp2_with fail
    refine (hrt.out _).mono ?_
    rintro e w2 ⟨rfl, hb2⟩
    have h12 := row_kept hb2 (by have := hlt.out; omega) H1.out
    have hlt2 : Hid (W.heap.size ≤ w2.heap.size) := hide hb2.size
    have HB2 : Hid (Below w.heap.size w w2) := hide (hB.out.trans (hb2.mono (by have := hlt.out; omega)))
    have H12 := hide h12
    have HAT := hide (fun j hj => h.at j hj)
    clear h12 hb2 hrt h1 hW
    dsimp only
    go_wp2
    go_loopw [4, 5] (fun u i wr => ∃ j : Nat, j ≤ S ∧ i = .int .i64 (j : Int) ∧ Hid (OwnB wr w2.heap.size u (l.take j)) ∧ Hid (Below w2.heap.size w2 wr)) (fun _ i _ => S - (intOf i).toNat)
    case atStart => exact ⟨0, by omega, rfl, hide (by rw [List.take_zero]; exact OwnB.nil _ _), hide (Below.refl _ _)⟩
    case round =>
      obtain ⟨j, hj, rfl, hown, hbr⟩ := hrel
      have hXr := row_kept hbr.out (by have := hlt.out; have := hlt2.out; omega) H12.out
      have hwz : Hid (w2.heap.size ≤ wr.heap.size) := hide hbr.out.size
      by_cases hlt3 : j < S
      · have hjl : j < l.length := by omega
        obtain ⟨x, hx⟩ : ∃ x, x = l[j] := ⟨_, rfl⟩
        have hj0 : (0 : Int) ≤ (j : Int) := by omega
        have hj1 : (j : Int) < 16 := by omega
        have HX := hide hx
        have hxb := x.toNat_lt
        clear hx
        go_wp2_with fail
        refine (hsz.out _).mono ?_
        rintro e w4 ⟨rfl, hb4⟩
        have hX4 := row_kept hb4 (by have := hlt.out; have := hlt2.out; have := hwz.out; omega) hXr
        have hc4 : w4.cell? ⟨w.heap.size, 1 + j, none⟩ = some (.int .u8 (x.toNat : Int)) := by rw [cell_of_row w4 _ _ _ _ _ hX4, HX.out]; exact HAT.out j hjl
        have hown4 : OwnB w4 w2.heap.size u4 (l.take j) := World.ownsRow.kept hown.out (below_row hb4 none) (Classical.em _)
        have HO4 := hide hown4
        have HB4 : Hid (Below w2.heap.size w2 w4) := hide (hbr.out.trans (hb4.mono hwz.out))
        clear hown4 hX4 hb4
        dsimp only
        go_wp2_with (at_builtin; refine wpList_app_bytes rfl (.tmp 15) (.tmp 20) rfl w2.heap.size u4 (l.take j) [x] (w4.heap.size + 1) 1 (some ⟨w4.heap.size, 0, none⟩) rfl rfl (by exact HO4.out.alloc _) (by exact Byt.lit w4 [x] _ _ (0, 0) rfl) (fun e => by cases e) (by simp; omega) (by have := HB4.out.size; simp; omega) ?_; intro v5 w5 hown5 hgrow5 hat5)
        go_roundw
        case rel =>
          refine ⟨j + 1, by omega, by go_num, hide ?_, hide ?_⟩
          · rw [List.take_succ_eq_append_getElem hjl, ← HX.out]; exact hown5
          · exact (HB4.out.alloc HB4.out.size _).grown hgrow5 (by have := HB4.out.size; simp; omega) (fun k hk => (World.ownsRow.lt HO4.out k hk).1)
        case measure => simp [intOf]; omega
      · obtain rfl : j = S := by omega
        go_wp2_with fail
        refine (hsz.out _).mono ?_
        rintro e w4 ⟨rfl, hb4⟩
        have hown4 : OwnB w4 w2.heap.size u4 (l.take j) := World.ownsRow.kept hown.out (below_row hb4 none) (Classical.em _)
        have HO4 := hide hown4
        obtain ⟨A, c, hu, hlc, hby, hnil, _⟩ := hown4.shape
        subst hu
        have HBY := hide hby
        have HNIL := hide hnil
        clear hown4 hby hnil
        dsimp only
        go_wp2
        go_ret2
        refine ⟨⟨A, c, by rw [hBB.out, hE.out]; rfl, by rw [hBB.out]; exact HBY.out, by rw [hBB.out]; exact hlc, HNIL.out⟩, HB2.out.trans ((hbr.out.trans (hb4.mono hwz.out)).mono HB2.out.size)⟩
end Go.Proofs.Ytgbmamahkpkdfaa
