/-
  The walk of the statement TupleTurned.
-/
import Derived.Test.YtcagdcjikbkapaaNj
import Derived.Test.YtcagdcjikbkapaaNf
namespace Go.Proofs.Ytcagdcjikbkapaa
open Go.RowKit
attribute [local go_sem ↓] exec_span exec_put exec_build heap_alloc_new heap_old heap_alloc_drew
attribute [local go_sem] spanQ_ptr spanC_some heap_of_drew heap_of_drewN rs_arr rs_ad rs_tup rs_seen putAt_ptr putOk_ptr oldOk_some World.setRow_alloc_new setRow_drew
set_option maxRecDepth 100000
set_option linter.unusedVariables false
set_option linter.unusedSimpArgs false

theorem turn_v6 (x : UInt8) {b : Nat} (hb : b < 8) : bits .xor .u8 (x.toNat : Int) (2 ^ b % 256) = ((turnU x b).toNat : Int) := by
  have hp : 2 ^ b < 256 := by
    have : 2 ^ b < 2 ^ 8 := Nat.pow_lt_pow_right (by omega) hb
    omega
  have h := u8_xor_nat x.toNat (2 ^ b) x.toNat_lt hp
  rw [turnU_toNat x hb, ← h]
  congr 1
  have e : ((2 : Int) ^ b) = ((2 ^ b : Nat) : Int) := by simp
  rw [e]
  generalize 2 ^ b = m at hp
  omega
/-- what one turned bit makes of a row of the call's own. -/
theorem own_turn6 {w : World} {base g c : Nat} {l : List UInt8} (h : OwnB w base (.slice (some ⟨g, 0, none⟩) l.length c) l) {q : Nat} (hq : q / 8 < l.length) {x : UInt8} (hx : x = l[q / 8]) :
    OwnB (w.setCell ⟨g, q / 8, none⟩ (.int .u8 (bits .xor .u8 (x.toNat : Int) (2 ^ (q % 8) % 256)))) base (.slice (some ⟨g, 0, none⟩) l.length c) (turnL l q) := by
  rw [turn_v6 x (by omega)]
  have e : turnL l q = l.set (q / 8) (turnU x (q % 8)) := by
    unfold turnL
    rw [hx]
    simp [List.getD_eq_getElem?_getD, List.getElem?_eq_getElem hq]
  rw [e]
  exact putByte h (q / 8) hq (turnU x (q % 8))
/-- what Make makes of a tuple of four and of TCP. -/
theorem make_pk4 {X : Array Value} {t : Tup} (x : TuV X t) {f : Int} {D : List UInt8} (h0 : mkE t f D = 0) (hv : t.sv = false) (hp : t.p ≠ 17) :
    ∃ h S, Pk4 h S ∧ S.length < 65516 ∧ mkB t f D = hd4 h [] ++ S := by
  unfold mkE at h0
  have hr : rightT t = true := by
    cases hc : rightT t with
    | true => rfl
    | false => rw [hc, if_pos rfl] at h0; exact absurd h0 (by decide)
  rw [if_neg (by rw [hr]; simp)] at h0
  have hm : mkP t f D = 0 := by
    by_cases hc : mkP t f D = 0
    · exact hc
    · rw [if_pos hc] at h0; exact absurd h0 hc
  rw [if_neg (by rw [hm]; simp)] at h0
  have hB : mkB t f D = pktB (makH t none (mkL t f D).length 0) [] (mkL t f D) := by
    unfold mkB
    rw [if_neg (by rw [hr]; simp), if_neg (by rw [hm]; simp)]
  have hp6 : t.p = 6 := by
    unfold rightT protoOk at hr
    simp only [Bool.and_eq_true, Bool.or_eq_true, beq_iff_eq] at hr
    rcases hr.1.1.2 with h | h
    · exact h
    · exact absurd h hp
  unfold mkP at hm
  obtain ⟨hpz, sp, hrs, hnv, hsz⟩ := putE_zero hm
  have hS : mkL t f D = segB (makH t none 0 0) (makS t f none D.length 0) [] D := by
    unfold mkL putB; rw [if_pos hm]
  have hl := len_segB (h := makH t none 0 0) (s := makS t f none D.length 0) (O := []) (D := D) hrs rfl rfl
  have hdn : hdN (makS t f none D.length 0) = 20 := by
    unfold hdN
    rw [if_pos (show (makS t f none D.length 0).p = 6 from hp6)]; rfl
  rw [hdn] at hl
  have hl2 : (mkL t f D).length = 20 + D.length := by rw [hS]; exact hl
  have hsz2 := (pktE_zero h0).2
  have hsn : sizeN (makH t none (mkL t f D).length 0) = 20 := by
    unfold sizeN
    rw [show (makH t none (mkL t f D).length 0).v = false from hv]; rfl
  rw [hsn] at hsz2
  have hnd : (makH t none (mkL t f D).length 0).nd = (mkL t f D).length := rfl
  rw [hnd] at hsz2
  refine ⟨makH t none (mkL t f D).length 0, mkL t f D, ⟨h0, hv, x.ls, x.ld, rfl, rfl, rfl, hp6, rfl, by omega, ?_⟩, by omega, ?_⟩
  · rw [hS]
    have h1 := segE_of (h := makH t none 0 0) (h' := makH t none (segB (makH t none 0 0) (makS t f none D.length 0) [] D).length 0) (s := makS t f none D.length 0) (O := []) (D := D) hm rfl rfl x.ls x.ld rfl rfl (by show (0 : Nat) < _; decide) (by show (0 : Nat) < _; decide)
    rw [h1]
    have h2 := sumN_told (h := makH t none 0 0) (s := makS t f none D.length 0) (O := []) (D := D) hm rfl x.ls x.ld rfl rfl
    have h3 : sumV (makH t none (segB (makH t none 0 0) (makS t f none D.length 0) [] D).length 0) (segB (makH t none 0 0) (makS t f none D.length 0) [] D) (atS (makH t none 0 0).p) = sumV (makH t none 0 0) (segB (makH t none 0 0) (makS t f none D.length 0) [] D) (atS (makH t none 0 0).p) := rfl
    rw [if_neg (fun e => e.2 (by rw [h3]; exact h2))]
  · rw [hB]
    exact pkt4_eq h0 hv x.ls x.ld rfl rfl

theorem six_lit (t : Tup) : ((t.p : Int) == 17) = decide (t.p = 17) := by by_cases h : t.p = 17 <;> simp [h]
set_option maxHeartbeats 8000000 in
theorem tupleTurned_any (w : World) (X : Array Value) (t : Tup) (x : TuV X t) (f : Int) (A : Option Addr) (c : Nat) (D : List UInt8) (z : Int) (hD : Byt w w.heap.size A D) (hc : D.length ≤ c) (hn : D.length ≤ 140737488355328) (hnil : A = none → c = 0) :
    Calls Try.prog 7 #[.agg X, .int .i64 f, .slice A D.length c, .int .i64 z] w fun e w' => e = .returned (.bool true) ∧ Below w.heap.size w w' := by
  have hxs := x.size
  have hxr := x.x0
  obtain ⟨W, hW⟩ : ∃ W, w.alloc (.cells X 52) = W := ⟨_, rfl⟩
  have r1 : W.heap[w.heap.size]? = some (.cells X 52 (0, 0)) := by rw [← hW]; exact heap_alloc_new _ _
  have hbW : Below w.heap.size w W := by rw [← hW]; exact (Below.refl _ _).alloc (Nat.le_refl _) _
  have hzW : W.heap.size = w.heap.size + 1 := by rw [← hW]; simp
  have HC := hide (fun (W1 : World) (b : Below W.heap.size W W1) => (⟨(x.cells ((b.block w.heap.size (by omega)).trans r1)).1, (x.cells ((b.block w.heap.size (by omega)).trans r1)).2.2.1⟩ : W1.cell? ⟨w.heap.size, 0, none⟩ = some (.bool t.sv) ∧ W1.cell? ⟨w.heap.size, 34, none⟩ = some (.int .i64 t.p)))
  have KM := hide (make_any W X t x f A c D ((hD.below hbW).more hbW.size) hc hn hnil)
  unfold MakeS at KM
  have HPK := hide (fun h0 hv hp => make_pk4 x (f := f) (D := D) h0 hv hp)
  obtain ⟨n, hnn⟩ : ∃ n, n = D.length := ⟨_, rfl⟩
  obtain ⟨E, hE⟩ : ∃ E, E = mkE t f D := ⟨_, rfl⟩
  obtain ⟨L, hL⟩ : ∃ L, L = mkB t f D := ⟨_, rfl⟩
  obtain ⟨v, hv⟩ : ∃ v, v = t.sv := ⟨_, rfl⟩
  obtain ⟨p, hp⟩ : ∃ p, p = t.p := ⟨_, rfl⟩
  rw [← hE, ← hL] at KM
  rw [← hE] at HPK
  rw [← hv, ← hp, ← hL] at HPK
  rw [← hv, ← hp] at HC
  rw [← hnn] at KM ⊢
  have HB := hide hbW
  have HW := hide hW
  clear hbW hnn hE hL hv hp hD hc hn hnil hzW hW x
  go_enter Try.func7, Try.ntmps7
  go_upto_region 1 with (fail)
  change Code.wp _ _ _ _ (w.alloc (.cells X 52))
  rw [HW.out]
  go_wp2_with fail
  refine KM.out.mono ?_
  rintro e w1 ⟨A1, c1, rfl, o1, b1⟩
  have B1 := hide b1
  have O1 := hide o1
  obtain ⟨k0, k34⟩ := HC.out w1 b1
  clear b1 o1 r1 HW
  by_cases h0 : E = 0
  · subst h0
    by_cases hv : v = true
    · subst hv
      go_wp2_with fail
      refine (known6_any w1).mono ?_
      rintro e w2 ⟨rfl, b2⟩
      have B2 := hide (HB.out.trans ((B1.out.trans (b2.mono B1.out.size)).mono HB.out.size))
      clear b2
      go_wp2
      go_ret
      exact ⟨rfl, B2.out⟩
    · have hvf : v = false := by simpa using hv
      subst hvf
      by_cases h17 : p = 17
      · subst h17
        go_wp2_with fail
        refine (known6_any w1).mono ?_
        rintro e w2 ⟨rfl, b2⟩
        have B2 := hide (HB.out.trans ((B1.out.trans (b2.mono B1.out.size)).mono HB.out.size))
        clear b2
        go_wp2
        go_ret
        exact ⟨rfl, B2.out⟩
      · obtain ⟨h, S, pk, hmax, hLS⟩ := HPK.out rfl rfl h17
        have hLl : L.length = 20 + S.length := by rw [hLS, List.length_append, pk.len]
        have h20 := pk.n20
        have HT : Hid (∀ qq, qq < 8 * L.length → seenE (turnL L qq) ≠ 0) := hide fun qq hq => by rw [hLS]; rw [hLl] at hq; exact turned_all pk hmax hq
        have h17b : (p == 17) = false := by simpa using h17
        have hl40 : ¬ (L.length : Int) < 40 := by omega
        have hLm : L.length ≤ 65535 := by omega
        clear pk hLS hLl hmax h20 HPK
        obtain ⟨g, cap, hv9, hlc, hg1, hgl⟩ := O1.out.pos (by omega)
        injection hv9 with e1 _ e2
        subst e1
        subst e2
        have hq0 := count_lt z (n := 8 * L.length) (by omega)
        have hcount := hide (count_any z (8 * L.length) w1 (by omega) (by omega))
        obtain ⟨qq, hqq⟩ : ∃ qq, qq = countS z (8 * L.length) := ⟨_, rfl⟩
        rw [← hqq] at hq0 hcount
        have hw8 : IntKind.i64.wrap (8 * (L.length : Int)) = ((8 * L.length : Nat) : Int) := by rw [show 8 * (L.length : Int) = ((8 * L.length : Nat) : Int) by omega]; exact IntWalk.i64_in _ (by omega)
        have HLC := hide hlc
        have HG1 := hide hg1
        clear hqq hlc hg1 hgl
        go_wp2_with fail
        refine hcount.out.mono ?_
        rintro e w' ⟨rfl, rfl⟩
        have hlt8 : qq / 8 < L.length := by omega
        obtain ⟨y, hy0⟩ : ∃ y, y = L[qq / 8] := ⟨_, rfl⟩
        have hy : y.toNat ≤ 255 := by have := y.toNat_lt; omega
        have hd0 : w1.cell? ⟨g, qq / 8, none⟩ = some (.int .u8 (y.toNat : Int)) := by rw [hy0]; exact O1.out.cell (qq / 8) hlt8
        have hf0 : w1.frozen? ⟨g, qq / 8, none⟩ = false := O1.out.frozen _
        have ho10 := own_turn6 O1.out hlt8 hy0
        have hgr := (World.ownsRow.stored O1.out (qq / 8) (.int .u8 (bits .xor .u8 (y.toNat : Int) (2 ^ (qq % 8) % 256)))).2
        have hb10 : Below W.heap.size W (w1.setCell ⟨g, qq / 8, none⟩ (.int .u8 (bits .xor .u8 (y.toNat : Int) (2 ^ (qq % 8) % 256)))) := B1.out.grown hgr B1.out.size (fun k hk => by cases hk; exact HG1.out)
        obtain ⟨w10, hw10⟩ : ∃ w10, w1.setCell ⟨g, qq / 8, none⟩ (.int .u8 (bits .xor .u8 (y.toNat : Int) (2 ^ (qq % 8) % 256))) = w10 := ⟨_, rfl⟩
        rw [hw10] at ho10 hb10
        have HO10 := hide ho10
        have B10 := hide hb10
        obtain ⟨T, hT⟩ : ∃ T, T = turnL L qq := ⟨_, rfl⟩
        have hTl : T.length = L.length := by rw [hT, length_turnL]
        rw [← hT] at HO10
        have HTT : Hid (seenE T ≠ 0) := hide (by rw [hT]; exact HT.out qq hq0)
        have KO := hide (tof_any w10 w10.heap.size (some ⟨g, 0, none⟩) T c1 (by rw [hTl]; exact HLC.out) (by rw [hTl]; omega) (OwnB.byt (c := c1) (by rw [hTl]; exact HO10.out) (by exact HO10.out.lt)) (Nat.le_refl _))
        rw [hTl] at KO
        unfold SeenS at KO
        obtain ⟨F, hF⟩ : ∃ F, F = seenE T := ⟨_, rfl⟩
        rw [← hF] at KO HTT
        have hF0 : (F != 0) = true := by have := HTT.out; simpa using this
        clear hy0 ho10 hgr hb10 hT hTl hF k0 k34
        dsimp only
        go_wp2_with fail
        refine KO.out.mono ?_
        rintro e w11 ⟨X9, rfl, b11, hz9, -⟩
        have hX9 := hz9 HTT.out
        have hs9 : X9.size = 39 := by rw [hX9]; exact seZ_ok.size
        have ho9 : allOne X9 = true := by rw [hX9]; exact seZ_ok.one
        have B11 := hide (HB.out.trans ((B10.out.trans (b11.mono B10.out.size)).mono HB.out.size))
        clear hz9 hX9 b11
        dsimp only
        go_wp2_with fail
        refine (known6_any _).mono ?_
        rintro e w12 ⟨rfl, b12⟩
        have B12 := hide (B11.out.trans ((((Below.refl _ _).alloc (Nat.le_refl _) _).trans (b12.mono (by simp))).mono B11.out.size))
        clear b12
        dsimp only
        go_wp2
        go_ret
        exact ⟨rfl, B12.out⟩
  · have h0b : (E != 0) = true := by simpa using h0
    clear h0
    go_wp2_with fail
    refine (known6_any w1).mono ?_
    rintro e w2 ⟨rfl, b2⟩
    have B2 := hide (HB.out.trans ((B1.out.trans (b2.mono B1.out.size)).mono HB.out.size))
    clear b2
    go_wp2
    go_ret
    exact ⟨rfl, B2.out⟩
end Go.Proofs.Ytcagdcjikbkapaa
