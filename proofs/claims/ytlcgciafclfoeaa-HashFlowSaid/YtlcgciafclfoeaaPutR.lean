/-
  The walk of the document's own PutTuple: a tuple as bytes.
-/
import Derived.Test.YtlcgciafclfoeaaTub
import Derived.Test.YtlcgciafclfoeaaLent
import Derived.Test.YtlcgciafclfoeaaTur
namespace Go.Proofs.Ytlcgciafclfoeaa
open Go.RowKit
attribute [local go_sem ↓] exec_span exec_put exec_build heap_alloc_new heap_old
attribute [local go_sem] spanQ_ptr spanC_some heap_of_drew heap_of_drewN rs_arr rs_ad rs_tup putAt_ptr putOk_ptr oldOk_some built_none World.setRow_alloc_new
set_option maxRecDepth 100000
set_option linter.unusedVariables false

theorem cell_old {w : World} {b i : Nat} {s : Option Nat} (o : Obj) (h : LtN b w.heap.size) : (w.alloc o).cell? ⟨b, i, s⟩ = w.cell? ⟨b, i, s⟩ := World.cell?_alloc_lt _ _ _ h
attribute [local go_sem ↓] cell_old
/-- what a walk asks of the bytes in a tuple's block. -/
theorem TuV.srcAt {X : Array Value} {t : Tup} (h : TuV X t) {w : World} {g : Nat} {ty : TypeId} (hg : w.heap[g]? = some (.cells X ty (0, 0))) (i : Nat) (hi : i < t.sb.length) : w.cell? ⟨g, 1 + i, none⟩ = some (.int .u8 (t.sb[i].toNat : Int)) := by
  rw [cell_of_row w g (1 + i) X ty (0, 0) hg, h.eq]
  simp only [List.getElem?_toArray, tupL]
  rw [List.getElem?_append_left (by rw [length_adL h.ls]; have := h.ls; omega), Nat.add_comm 1]
  simp [adL, byteV, hi]
theorem TuV.dstAt {X : Array Value} {t : Tup} (h : TuV X t) {w : World} {g : Nat} {ty : TypeId} (hg : w.heap[g]? = some (.cells X ty (0, 0))) (i : Nat) (hi : i < t.db.length) : w.cell? ⟨g, 18 + i, none⟩ = some (.int .u8 (t.db[i].toNat : Int)) := by
  rw [cell_of_row w g (18 + i) X ty (0, 0) hg, h.eq]
  simp only [List.getElem?_toArray, tupL]
  rw [List.getElem?_append_right (by rw [length_adL h.ls]; omega), length_adL h.ls, List.getElem?_append_left (by rw [length_adL h.ld]; have := h.ld; omega), show 18 + i - 17 = i + 1 by omega]
  simp [adL, byteV, hi]

theorem tail4 {sn dn : Nat} (hs : sn ≤ 65535) (hd : dn ≤ 65535) : #[Value.int .u8 ((sn : Int) / 256), .int .u8 ((sn : Int) % 256), .int .u8 ((dn : Int) / 256), .int .u8 ((dn : Int) % 256)] = ([UInt8.ofNat (sn / 256), UInt8.ofNat sn, UInt8.ofNat (dn / 256), UInt8.ofNat dn].map byteV).toArray := by
  simp only [List.map_cons, List.map_nil, byteV, UInt8.toNat_ofNat']
  congr 1
  simp
  omega
set_option maxHeartbeats 2000000 in
theorem refputtuple_any (w : World) (X : Array Value) (t : Tup) (h : TuV X t) :
    Calls Try.prog 27 #[.agg X] w fun e w' => (∃ A c, e = .returned (.tuple #[.slice A (putB t).length c, .int .i64 (putE t)]) ∧ Byt w' w'.heap.size A (putB t) ∧ (putB t).length ≤ c ∧ (A = none → c = 0)) ∧ Below w.heap.size w w' := by
  go_enter Try.func27, Try.ntmps27
  have hxs := h.size
  have hxr := h.x0
  obtain ⟨W, hW, h1, hz, hb⟩ := one_block w (.cells X 36)
  have hrt := hide (fun W => refrighttuple_any W X t h)
  have hB := hide hb
  have hlt : Hid (W.heap.size = w.heap.size + 1) := hide hz
  have H1 := hide h1
  clear hz hb
  obtain ⟨R, hR⟩ : ∃ R, R = rightT t := ⟨_, rfl⟩
  rw [← hR] at hrt
  have HR := hide hR
  clear hR
  cases R
  · have hE := hide (show putE t = 1 by unfold putE; rw [← HR.out]; rfl)
    have hBB := hide (show putB t = [] by unfold putB; rw [← HR.out]; rfl)
    go_wp2_with (go_at_call 34; refine (hrt.out _).mono ?_; rintro e w2 ⟨rfl, hb2⟩)
    go_ret2
    refine ⟨⟨none, 0, by rw [hBB.out, hE.out]; rfl, by rw [hBB.out]; exact Byt.nil _ _ _, by rw [hBB.out]; exact Nat.le_refl _, fun _ => rfl⟩, hB.out.trans (hb2.mono (by have := hlt.out; omega))⟩
  · have hE := hide (show putE t = 0 by unfold putE; rw [← HR.out]; rfl)
    have hBB := hide (show putB t = tupB t by unfold putB; rw [← HR.out]; rfl)
    have hX := hide h
    have hP : protoOk t.p = true ∧ portOk t.s = true ∧ portOk t.d = true := by
      have := HR.out.symm
      unfold rightT at this
      simp only [Bool.and_eq_true] at this
      exact ⟨this.1.1.2, this.1.2, this.2⟩
    go_wp2_with fail
    refine (hrt.out _).mono ?_
    rintro e w2 ⟨rfl, hb2⟩
    have h12 := row_kept hb2 (by have := hlt.out; omega) H1.out
    obtain ⟨k1, k2, k3, k4, k5⟩ := hX.out.cells h12
    obtain ⟨sv, sb, dv, db, p, s, d⟩ := t
    simp only at k1 k2 k3 k4 k5 hP
    have hlw2 : Hid (w.heap.size < w2.heap.size) := hide (by have := hlt.out; have := hb2.size; omega)
    obtain ⟨pn, rfl, hpn⟩ : ∃ n : Nat, p = (n : Int) ∧ n ≤ 17 := by
      have := hP.1
      unfold protoOk at this
      simp at this
      rcases this with rfl | rfl
      · exact ⟨6, rfl, by omega⟩
      · exact ⟨17, rfl, by omega⟩
    have hport : ∀ n : Int, portOk n = true → ∃ m : Nat, n = (m : Int) ∧ m ≤ 65535 := fun n h => by
      unfold portOk at h
      simp at h
      exact ⟨n.toNat, by omega, by omega⟩
    obtain ⟨sn, rfl, hsn⟩ := hport s hP.2.1
    obtain ⟨dn, rfl, hdn⟩ := hport d hP.2.2
    clear hP hport
    have HB2 : Hid (Below w.heap.size w w2) := hide (hB.out.trans (hb2.mono (by have := hlt.out; omega)))
    have hls := hide hX.out.ls
    have hld := hide hX.out.ld
    obtain ⟨L0, hL0⟩ : ∃ L0 : List UInt8, L0 = [if sv then 6 else 4, UInt8.ofNat pn] := ⟨_, rfl⟩
    obtain ⟨tl, htl⟩ : ∃ tl : List UInt8, tl = numBytes sn 2 2 ++ numBytes dn 2 2 := ⟨_, rfl⟩
    have HLB : Hid (tupB ⟨sv, sb, dv, db, (pn : Int), (sn : Int), (dn : Int)⟩ = L0 ++ (sb ++ (db ++ tl))) := hide (by rw [hL0, htl]; rfl)
    have HL0 := hide hL0
    have HL0l : Hid (L0.length = 2) := hide (by rw [hL0]; rfl)
    have HTL := hide htl
    have hpc : IntKind.u8.wrap (pn : Int) = (pn : Int) := by rw [IntKind.wrap_u8]; omega
    have hn0 : LtN w.heap.size w2.heap.size := hlw2.out
    clear hL0 htl
    dsimp only
    have HX2 := hide h12
    cases sv
    · go_wp2_with fail
      have hown : OwnB (w2.alloc (.cells #[.int .u8 4, .int .u8 (pn : Int)] 5)) w2.heap.size (.slice (some ⟨w2.heap.size, 0, none⟩) L0.length 2) L0 := by
        have e : L0.map byteV = #[Value.int .u8 4, .int .u8 (pn : Int)].toList := by rw [HL0.out]; simp [byteV, UInt8.toNat_ofNat_of_lt' (show pn < 256 by omega)]
        unfold OwnB
        rw [e, HL0l.out]
        exact World.ownsRow_lit w2 _ 2 (Nat.le_refl _) (by unfold maxLen; omega) rfl
      have hb3 : Below w2.heap.size w2 (w2.alloc (.cells #[.int .u8 4, .int .u8 (pn : Int)] 5)) := (Below.refl _ _).alloc (Nat.le_refl _) _
      obtain ⟨W3, hW3⟩ : ∃ W3, W3 = w2.alloc (.cells #[.int .u8 4, .int .u8 (pn : Int)] 5) := ⟨_, rfl⟩
      rw [← hW3] at hown hb3 ⊢
      clear hW3
      have HO3 : Hid (OwnB W3 w2.heap.size (.slice (some ⟨w2.heap.size, 0, none⟩) 2 2) L0) := hide (by have := hown; rwa [HL0l.out] at this)
      have HB3 := hide hb3
      clear hown hb3 k1 k2 k3 k4 k5 h1 hW h12 hb2 hn0
      go_loopw [4, 5] (fun u i wr => ∃ j : Nat, j ≤ 16 ∧ i = .int .i64 (j : Int) ∧ Hid (OwnB wr w2.heap.size u (L0 ++ sb.take j)) ∧ Hid (Below w2.heap.size w2 wr)) (fun _ i _ => 16 - (intOf i).toNat)
      case atStart => exact ⟨0, by omega, rfl, hide (by rw [List.take_zero, List.append_nil]; exact HO3.out), HB3⟩
      case round =>
        obtain ⟨j, hj, rfl, hown, hbr⟩ := hrel
        by_cases hlt3 : j < 16
        · have hXr := row_kept hbr.out (by have := hlw2.out; omega) HX2.out
          have hjl : j < sb.length := by have := hls.out; omega
          obtain ⟨x, hx⟩ : ∃ x, x = sb[j] := ⟨_, rfl⟩
          have hc := hX.out.srcAt hXr j hjl
          simp only at hc
          rw [← hx] at hc
          have HXX := hide hx
          have hwz : Hid (w2.heap.size ≤ wr.heap.size) := hide hbr.out.size
          have hlL : Hid ((L0 ++ sb.take j).length ≤ 18) := hide (by rw [List.length_append, List.length_take, HL0l.out]; omega)
          clear hx hXr
          have hj1 : (j : Int) < 16 := by omega
          go_wp2_with (at_builtin; refine wpList_app_bytes rfl (.tmp 23) (.tmp 29) rfl w2.heap.size u4 (L0 ++ sb.take j) [x] (wr.heap.size + 1) 1 (some ⟨wr.heap.size, 0, none⟩) rfl rfl (by exact hown.out.alloc _) (by exact Byt.lit wr [x] _ _ (0, 0) rfl) (fun e => by cases e) (by have := hlL.out; simp only [List.length_cons, List.length_nil]; omega) (by have := hwz.out; simp; omega) ?_; intro v5 w5 hown5 hgrow5 hat5)
          go_roundw
          case rel =>
            refine ⟨j + 1, by omega, by go_num, hide ?_, hide ?_⟩
            · rw [List.take_succ_eq_append_getElem hjl, ← HXX.out, ← List.append_assoc]; exact hown5
            · exact (hbr.out.alloc hbr.out.size _).grown hgrow5 (by have := hwz.out; simp; omega) (fun k hk => (World.ownsRow.lt hown.out k hk).1)
          case measure => simp [intOf]; omega
        · obtain rfl : j = 16 := by omega
          have hown' : OwnB wr w2.heap.size u4 (L0 ++ sb) := by have := hown.out; rwa [List.take_of_length_le (by have := hls.out; omega)] at this
          have HOW := hide hown'
          clear hown hown' hlt3
          rw [show ((16 : Nat) : Int) = 16 from rfl]
          go_wp2_with fail
          go_loopw [4, 6] (fun u i wr => ∃ j : Nat, j ≤ 16 ∧ i = .int .i64 (j : Int) ∧ Hid (OwnB wr w2.heap.size u (L0 ++ sb ++ db.take j)) ∧ Hid (Below w2.heap.size w2 wr)) (fun _ i _ => 16 - (intOf i).toNat)
          case atStart => exact ⟨0, by omega, rfl, hide (by rw [List.take_zero, List.append_nil]; exact HOW.out), hbr⟩
          case round =>
            obtain ⟨j, hj, rfl, hown, hbr2⟩ := hrel
            have hXr := row_kept hbr2.out (by have := hlw2.out; omega) HX2.out
            have hwz : Hid (w2.heap.size ≤ wr.heap.size) := hide hbr2.out.size
            by_cases hlt4 : j < 16
            · have hjl : j < db.length := by have := hld.out; omega
              obtain ⟨x, hx⟩ : ∃ x, x = db[j] := ⟨_, rfl⟩
              have hc := hX.out.dstAt hXr j hjl
              simp only at hc
              rw [← hx] at hc
              have HXX := hide hx
              have hlL : Hid ((L0 ++ sb ++ db.take j).length ≤ 34) := hide (by rw [List.length_append, List.length_append, List.length_take, HL0l.out, hls.out]; omega)
              clear hx hXr
              have hj1 : (j : Int) < 16 := by omega
              go_wp2_with (at_builtin; refine wpList_app_bytes rfl (.tmp 35) (.tmp 41) rfl w2.heap.size u4 (L0 ++ sb ++ db.take j) [x] (wr.heap.size + 1) 1 (some ⟨wr.heap.size, 0, none⟩) rfl rfl (by exact hown.out.alloc _) (by exact Byt.lit wr [x] _ _ (0, 0) rfl) (fun e => by cases e) (by have := hlL.out; simp only [List.length_cons, List.length_nil]; omega) (by have := hwz.out; simp; omega) ?_; intro v5 w5 hown5 hgrow5 hat5)
              go_roundw
              case rel =>
                refine ⟨j + 1, by omega, by go_num, hide ?_, hide ?_⟩
                · rw [List.take_succ_eq_append_getElem hjl, ← HXX.out, ← List.append_assoc]; exact hown5
                · exact (hbr2.out.alloc hbr2.out.size _).grown hgrow5 (by have := hwz.out; simp; omega) (fun k hk => (World.ownsRow.lt hown.out k hk).1)
              case measure => simp [intOf]; omega
            · obtain rfl : j = 16 := by omega
              obtain ⟨_, _, q3, q4, q5⟩ := hX.out.cells hXr
              simp only at q3 q4 q5
              have hown' : OwnB wr w2.heap.size u4 (L0 ++ sb ++ db) := by have := hown.out; rwa [List.take_of_length_le (by have := hld.out; omega)] at this
              have HOW2 := hide hown'
              have hlL : Hid ((L0 ++ sb ++ db).length ≤ 34) := hide (by rw [List.length_append, List.length_append, HL0l.out, hls.out, hld.out]; decide)
              clear hown hown' hlt4 hXr
              rw [show ((16 : Nat) : Int) = 16 from rfl]
              have HT4 := hide (tail4 hsn hdn)
              go_wp2_with (at_builtin; refine wpList_app_bytes rfl (.tmp 43) (.tmp 58) rfl w2.heap.size u4 (L0 ++ sb ++ db) [UInt8.ofNat (sn / 256), UInt8.ofNat sn, UInt8.ofNat (dn / 256), UInt8.ofNat dn] (wr.heap.size + 1) 4 (some ⟨wr.heap.size, 0, none⟩) rfl rfl (by exact HOW2.out.alloc _) (by exact Byt.lit wr _ _ _ (0, 0) HT4.out) (fun e => by cases e) (by have := hlL.out; simp only [List.length_cons, List.length_nil]; omega) (by have := hwz.out; simp; omega) ?_; intro v5 w5 hown5 hgrow5 hat5)
              go_ret2
              have hb5 : Below w2.heap.size w2 w5 := (hbr2.out.alloc hbr2.out.size _).grown hgrow5 (by have := hwz.out; simp; omega) (fun k hk => (World.ownsRow.lt HOW2.out k hk).1)
              have hL : L0 ++ sb ++ db ++ [UInt8.ofNat (sn / 256), UInt8.ofNat sn, UInt8.ofNat (dn / 256), UInt8.ofNat dn] = putB ⟨false, sb, dv, db, (pn : Int), (sn : Int), (dn : Int)⟩ := by
                rw [hBB.out, HLB.out, HTL.out, numB2, numB2, List.append_assoc, List.append_assoc]; rfl
              rw [hL] at hown5
              obtain ⟨A', c', e, h1, h2, h3, _⟩ := hown5.shape
              refine ⟨⟨A', c', ?_, h2, h1, h3⟩, HB2.out.trans (hb5.mono HB2.out.size)⟩
              rw [hE.out]
              exact congrArg (fun v => Ending.returned (.tuple #[v, .int .i64 0])) e
    · go_wp2_with fail
      have hown : OwnB (w2.alloc (.cells #[.int .u8 6, .int .u8 (pn : Int)] 5)) w2.heap.size (.slice (some ⟨w2.heap.size, 0, none⟩) L0.length 2) L0 := by
        have e : L0.map byteV = #[Value.int .u8 6, .int .u8 (pn : Int)].toList := by rw [HL0.out]; simp [byteV, UInt8.toNat_ofNat_of_lt' (show pn < 256 by omega)]
        unfold OwnB
        rw [e, HL0l.out]
        exact World.ownsRow_lit w2 _ 2 (Nat.le_refl _) (by unfold maxLen; omega) rfl
      have hb3 : Below w2.heap.size w2 (w2.alloc (.cells #[.int .u8 6, .int .u8 (pn : Int)] 5)) := (Below.refl _ _).alloc (Nat.le_refl _) _
      obtain ⟨W3, hW3⟩ : ∃ W3, W3 = w2.alloc (.cells #[.int .u8 6, .int .u8 (pn : Int)] 5) := ⟨_, rfl⟩
      rw [← hW3] at hown hb3 ⊢
      clear hW3
      have HO3 : Hid (OwnB W3 w2.heap.size (.slice (some ⟨w2.heap.size, 0, none⟩) 2 2) L0) := hide (by have := hown; rwa [HL0l.out] at this)
      have HB3 := hide hb3
      clear hown hb3 k1 k2 k3 k4 k5 h1 hW h12 hb2 hn0
      go_loopw [4, 5] (fun u i wr => ∃ j : Nat, j ≤ 16 ∧ i = .int .i64 (j : Int) ∧ Hid (OwnB wr w2.heap.size u (L0 ++ sb.take j)) ∧ Hid (Below w2.heap.size w2 wr)) (fun _ i _ => 16 - (intOf i).toNat)
      case atStart => exact ⟨0, by omega, rfl, hide (by rw [List.take_zero, List.append_nil]; exact HO3.out), HB3⟩
      case round =>
        obtain ⟨j, hj, rfl, hown, hbr⟩ := hrel
        by_cases hlt3 : j < 16
        · have hXr := row_kept hbr.out (by have := hlw2.out; omega) HX2.out
          have hjl : j < sb.length := by have := hls.out; omega
          obtain ⟨x, hx⟩ : ∃ x, x = sb[j] := ⟨_, rfl⟩
          have hc := hX.out.srcAt hXr j hjl
          simp only at hc
          rw [← hx] at hc
          have HXX := hide hx
          have hwz : Hid (w2.heap.size ≤ wr.heap.size) := hide hbr.out.size
          have hlL : Hid ((L0 ++ sb.take j).length ≤ 18) := hide (by rw [List.length_append, List.length_take, HL0l.out]; omega)
          clear hx hXr
          have hj1 : (j : Int) < 16 := by omega
          go_wp2_with (at_builtin; refine wpList_app_bytes rfl (.tmp 23) (.tmp 29) rfl w2.heap.size u4 (L0 ++ sb.take j) [x] (wr.heap.size + 1) 1 (some ⟨wr.heap.size, 0, none⟩) rfl rfl (by exact hown.out.alloc _) (by exact Byt.lit wr [x] _ _ (0, 0) rfl) (fun e => by cases e) (by have := hlL.out; simp only [List.length_cons, List.length_nil]; omega) (by have := hwz.out; simp; omega) ?_; intro v5 w5 hown5 hgrow5 hat5)
          go_roundw
          case rel =>
            refine ⟨j + 1, by omega, by go_num, hide ?_, hide ?_⟩
            · rw [List.take_succ_eq_append_getElem hjl, ← HXX.out, ← List.append_assoc]; exact hown5
            · exact (hbr.out.alloc hbr.out.size _).grown hgrow5 (by have := hwz.out; simp; omega) (fun k hk => (World.ownsRow.lt hown.out k hk).1)
          case measure => simp [intOf]; omega
        · obtain rfl : j = 16 := by omega
          have hown' : OwnB wr w2.heap.size u4 (L0 ++ sb) := by have := hown.out; rwa [List.take_of_length_le (by have := hls.out; omega)] at this
          have HOW := hide hown'
          clear hown hown' hlt3
          rw [show ((16 : Nat) : Int) = 16 from rfl]
          go_wp2_with fail
          go_loopw [4, 6] (fun u i wr => ∃ j : Nat, j ≤ 16 ∧ i = .int .i64 (j : Int) ∧ Hid (OwnB wr w2.heap.size u (L0 ++ sb ++ db.take j)) ∧ Hid (Below w2.heap.size w2 wr)) (fun _ i _ => 16 - (intOf i).toNat)
          case atStart => exact ⟨0, by omega, rfl, hide (by rw [List.take_zero, List.append_nil]; exact HOW.out), hbr⟩
          case round =>
            obtain ⟨j, hj, rfl, hown, hbr2⟩ := hrel
            have hXr := row_kept hbr2.out (by have := hlw2.out; omega) HX2.out
            have hwz : Hid (w2.heap.size ≤ wr.heap.size) := hide hbr2.out.size
            by_cases hlt4 : j < 16
            · have hjl : j < db.length := by have := hld.out; omega
              obtain ⟨x, hx⟩ : ∃ x, x = db[j] := ⟨_, rfl⟩
              have hc := hX.out.dstAt hXr j hjl
              simp only at hc
              rw [← hx] at hc
              have HXX := hide hx
              have hlL : Hid ((L0 ++ sb ++ db.take j).length ≤ 34) := hide (by rw [List.length_append, List.length_append, List.length_take, HL0l.out, hls.out]; omega)
              clear hx hXr
              have hj1 : (j : Int) < 16 := by omega
              go_wp2_with (at_builtin; refine wpList_app_bytes rfl (.tmp 35) (.tmp 41) rfl w2.heap.size u4 (L0 ++ sb ++ db.take j) [x] (wr.heap.size + 1) 1 (some ⟨wr.heap.size, 0, none⟩) rfl rfl (by exact hown.out.alloc _) (by exact Byt.lit wr [x] _ _ (0, 0) rfl) (fun e => by cases e) (by have := hlL.out; simp only [List.length_cons, List.length_nil]; omega) (by have := hwz.out; simp; omega) ?_; intro v5 w5 hown5 hgrow5 hat5)
              go_roundw
              case rel =>
                refine ⟨j + 1, by omega, by go_num, hide ?_, hide ?_⟩
                · rw [List.take_succ_eq_append_getElem hjl, ← HXX.out, ← List.append_assoc]; exact hown5
                · exact (hbr2.out.alloc hbr2.out.size _).grown hgrow5 (by have := hwz.out; simp; omega) (fun k hk => (World.ownsRow.lt hown.out k hk).1)
              case measure => simp [intOf]; omega
            · obtain rfl : j = 16 := by omega
              obtain ⟨_, _, q3, q4, q5⟩ := hX.out.cells hXr
              simp only at q3 q4 q5
              have hown' : OwnB wr w2.heap.size u4 (L0 ++ sb ++ db) := by have := hown.out; rwa [List.take_of_length_le (by have := hld.out; omega)] at this
              have HOW2 := hide hown'
              have hlL : Hid ((L0 ++ sb ++ db).length ≤ 34) := hide (by rw [List.length_append, List.length_append, HL0l.out, hls.out, hld.out]; decide)
              clear hown hown' hlt4 hXr
              rw [show ((16 : Nat) : Int) = 16 from rfl]
              have HT4 := hide (tail4 hsn hdn)
              go_wp2_with (at_builtin; refine wpList_app_bytes rfl (.tmp 43) (.tmp 58) rfl w2.heap.size u4 (L0 ++ sb ++ db) [UInt8.ofNat (sn / 256), UInt8.ofNat sn, UInt8.ofNat (dn / 256), UInt8.ofNat dn] (wr.heap.size + 1) 4 (some ⟨wr.heap.size, 0, none⟩) rfl rfl (by exact HOW2.out.alloc _) (by exact Byt.lit wr _ _ _ (0, 0) HT4.out) (fun e => by cases e) (by have := hlL.out; simp only [List.length_cons, List.length_nil]; omega) (by have := hwz.out; simp; omega) ?_; intro v5 w5 hown5 hgrow5 hat5)
              go_ret2
              have hb5 : Below w2.heap.size w2 w5 := (hbr2.out.alloc hbr2.out.size _).grown hgrow5 (by have := hwz.out; simp; omega) (fun k hk => (World.ownsRow.lt HOW2.out k hk).1)
              have hL : L0 ++ sb ++ db ++ [UInt8.ofNat (sn / 256), UInt8.ofNat sn, UInt8.ofNat (dn / 256), UInt8.ofNat dn] = putB ⟨true, sb, dv, db, (pn : Int), (sn : Int), (dn : Int)⟩ := by
                rw [hBB.out, HLB.out, HTL.out, numB2, numB2, List.append_assoc, List.append_assoc]; rfl
              rw [hL] at hown5
              obtain ⟨A', c', e, h1, h2, h3, _⟩ := hown5.shape
              refine ⟨⟨A', c', ?_, h2, h1, h3⟩, HB2.out.trans (hb5.mono HB2.out.size)⟩
              rw [hE.out]
              exact congrArg (fun v => Ending.returned (.tuple #[v, .int .i64 0])) e
end Go.Proofs.Ytlcgciafclfoeaa
