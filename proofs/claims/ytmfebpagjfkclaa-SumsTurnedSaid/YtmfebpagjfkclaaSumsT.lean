/-
  The walk of the statement SumsTurned: true; nothing that was there is written.
-/
import Derived.Test.YtmfebpagjfkclaaSumsM
import Derived.Test.YtmfebpagjfkclaaTurnm
namespace Go.Proofs.Ytmfebpagjfkclaa
open Go.RowKit

theorem turn_val (x : UInt8) {b : Nat} (hb : b < 8) : bits .xor .u8 (x.toNat : Int) (2 ^ b % 256) = ((turnU x b).toNat : Int) := by
  have hp : 2 ^ b < 256 := by
    have : 2 ^ b < 2 ^ 8 := Nat.pow_lt_pow_right (by omega) hb
    omega
  have h := u8_xor_nat x.toNat (2 ^ b) x.toNat_lt hp
  rw [turnU_toNat x hb, ← h]
  congr 1
  have e : ((2 : Int) ^ b) = ((2 ^ b : Nat) : Int) := by simp
  rw [e]
  generalize 2 ^ b = m at hp
  omega
theorem OwnB.stored_grown {w : World} {base g c : Nat} {l : List UInt8} (h : OwnB w base (.slice (some ⟨g, 0, none⟩) l.length c) l) (j : Nat) (u : Value) : w.grownBy (w.setCell ⟨g, j, none⟩ u) (some g) := (World.ownsRow.stored (g := g) (cap := c) h j u).2
/-- what one turned bit makes of a row of the call's own. -/
theorem OwnB.turn {w : World} {base g c : Nat} {l : List UInt8} (h : OwnB w base (.slice (some ⟨g, 0, none⟩) l.length c) l) {q : Nat} (hq : q / 8 < l.length) {x : UInt8} (hx : x = l[q / 8]) :
    OwnB (w.setCell ⟨g, q / 8, none⟩ (.int .u8 (bits .xor .u8 (x.toNat : Int) (2 ^ (q % 8) % 256)))) base (.slice (some ⟨g, 0, none⟩) l.length c) (turnL l q) := by
  rw [turn_val x (by omega)]
  have e : turnL l q = l.set (q / 8) (turnU x (q % 8)) := by
    unfold turnL
    rw [hx]
    simp [List.getD_eq_getElem?_getD, List.getElem?_eq_getElem hq]
  rw [e]
  exact h.set (q / 8) (turnU x (q % 8))
/-- what the loop over the bits has made of the bytes so far. -/
structure Turned (l S : List UInt8) (q i : Nat) (any : Bool) : Prop where
  len : S.length = l.length
  same : ∀ j, ¬ (q ≤ j ∧ j < q + i) → bitAt S j = bitAt l j
  diff : any = true → ∃ j, j < q + i ∧ j < 8 * l.length ∧ bitAt S j ≠ bitAt l j
theorem Turned.start (l : List UInt8) (q : Nat) : Turned l l q 0 false := ⟨rfl, fun _ _ => rfl, fun h => by cases h⟩
theorem Turned.skip {l S : List UInt8} {q i : Nat} {any : Bool} (h : Turned l S q i any) : Turned l S q (i + 1) any :=
  ⟨h.len, fun j hj => h.same j (by omega), fun ha => by obtain ⟨j, h1, h2⟩ := h.diff ha; exact ⟨j, by omega, h2⟩⟩
theorem Turned.turn {l S : List UInt8} {q i : Nat} {any : Bool} (h : Turned l S q i any) (hq : q + i < 8 * l.length) : Turned l (turnL S (q + i)) q (i + 1) true := by
  have hqS : q + i < 8 * S.length := by rw [h.len]; exact hq
  refine ⟨by rw [length_turnL, h.len], fun j hj => ?_, fun _ => ⟨q + i, by omega, hq, ?_⟩⟩
  · rw [bitAt_turn hqS, h.same j (by omega)]
    have : ¬ j = q + i := by omega
    simp [this]
  · rw [bitAt_turn hqS, h.same (q + i) (by omega)]
    cases bitAt l (q + i) <;> simp
theorem Turned.crc {l S : List UInt8} {q i : Nat} (h : Turned l S q i true) (hi : i ≤ 32) : moreB 0 S ≠ moreB 0 l := by
  unfold moreB
  obtain ⟨j, _, h2, h3⟩ := h.diff rfl
  exact not_ne (crc_window (p := q) _ h.len (fun j hj => h.same j (by omega)) ⟨j, h2, h3⟩)

set_option maxHeartbeats 4000000 in
theorem sumsTurned_any (A : Option Addr) (c : Nat) (l : List UInt8) (at_ : Int) (Z : BitVec 32) (w : World) (hl : l.length ≤ c) (hc : l.length ≤ 140737488355320) (hb : Byt w w.heap.size A l) (hnil : A = none → c = 0) :
    Calls Try.prog 14 #[.slice A l.length c, .int .i64 at_, .int .u32 (Z.toNat : Int)] w fun e w' => e = .returned (.bool true) ∧ Below w.heap.size w w' := by
  by_cases hsm : l.length = 0
  · have he : ((l.length : Int) == 0) = true := by simp; exact List.eq_nil_of_length_eq_zero hsm
    go_enter Try.func14, Try.ntmps14
    go_wp2_with (go_at_call 47; refine (known_any _).mono ?_; rintro e w3 ⟨rfl, hb3⟩)
    go_ret
    exact ⟨rfl, hb3⟩
  · have hq0 := count_lt at_ (n := 8 * l.length) (by omega)
    obtain ⟨q, hqq⟩ : ∃ q, q = countS at_ (8 * l.length) := ⟨_, rfl⟩
    have hcount := hide (count_any at_ (8 * l.length) w (by omega) (by omega))
    rw [← hqq] at hq0 hcount
    clear hqq
    have he : ((l.length : Int) == 0) = false := by simp; intro h; exact hsm (by rw [h]; rfl)
    go_enter Try.func14, Try.ntmps14
    go_wp2_with fail
    rw [show (8 * (l.length : Int)) = ((8 * l.length : Nat) : Int) from by omega]
    refine hcount.out.mono ?_
    rintro e w1 ⟨rfl, rfl⟩
    go_wp2_with (at_builtin; refine wpList_app_bytes rfl (.tmp 20) (.tmp 21) rfl w.heap.size (.slice none 0 0) [] l w.heap.size c A rfl rfl (OwnB.nil _ _) (by exact hb) hnil (by simp; omega) (by simp) ?_)
    intro v3 w3 hown3 hgr3 hat3
    have hb3 : Below w.heap.size w w3 := (Below.refl _ _).grown hgr3 (by simp) (fun k hk => by simp [Value.ownBlock] at hk)
    obtain ⟨g, c3, rfl, hl3, hg1, hg2⟩ := hown3.pos (by omega)
    have hlt8 : q / 8 < l.length := by omega
    obtain ⟨x, hx0⟩ : ∃ x, x = l[q / 8] := ⟨_, rfl⟩
    have hx : x.toNat ≤ 255 := by have := x.toNat_lt; omega
    have hd0 : w3.cell? ⟨g, q / 8, none⟩ = some (.int .u8 (x.toNat : Int)) := by rw [hx0]; exact hown3.cell (q / 8) hlt8
    have hf0 : w3.frozen? ⟨g, q / 8, none⟩ = false := hown3.frozen _
    have hown3' := hown3.turn hlt8 hx0
    have hb3' : Below w.heap.size w (w3.setCell ⟨g, q / 8, none⟩ (.int .u8 (bits .xor .u8 (x.toNat : Int) (2 ^ (q % 8) % 256)))) := hb3.setCell (by exact hg1) _
    clear hx0 hgr3 hat3 hown3
    have HB3 := hide hb3'
    have HO3 := hide hown3'
    clear hb3' hown3'
    go_wp2_with (at_builtin; refine wpList_app_bytes rfl (.tmp 37) (.tmp 38) rfl w3.heap.size (.slice none 0 0) [] l w.heap.size c A rfl rfl (OwnB.nil _ _) (by exact hb.below HB3.out) hnil (by simp; omega) (by simp) ?_)
    intro v4 w4 hown4 hgr4 hat4
    have hb4 : Below w.heap.size w w4 := HB3.out.grown hgr4 (by have := hb3.size; simp; omega) (fun k hk => by simp [Value.ownBlock] at hk)
    have hown1 := HO3.out.kept hgr4 (.inr (by simp [Value.ownBlock]))
    obtain ⟨g4, c4, rfl, hl4, hg41, hg42⟩ := hown4.pos (by omega)
    clear hgr4 hat4 HB3 HO3 hd0 hf0 hb3
    go_wp2
    go_loopw [9, 10] (fun u v wr => ∃ (any : Bool) (i : Nat) (S : List UInt8), i ≤ 32 ∧ u = .bool any ∧ v = .int .i64 (i : Int) ∧ OwnB wr w3.heap.size (.slice (some ⟨g4, 0, none⟩) S.length c4) S ∧ OwnB wr w.heap.size (.slice (some ⟨g, 0, none⟩) l.length c3) (turnL l q) ∧ Below w.heap.size w wr ∧ Turned l S q i any)
      (fun _ v _ => 32 - (intOf v).toNat)
    case atStart => exact ⟨false, 0, l, by omega, rfl, rfl, hown4, hown1, hb4, Turned.start l q⟩
    case round =>
      obtain ⟨any, i, S, hi, rfl, rfl, hownS, hownT, hbr, hT⟩ := hrel
      clear hown4 hown1 hb4
      by_cases hgo : i < 32 ∧ q + i < 8 * l.length
      · obtain ⟨hi32, hin⟩ := hgo
        have g1 : decide ((i : Int) < 32) = true := by simp; omega
        have g2 : ((q : Int) + (i : Int)) < 8 * (l.length : Int) := by omega
        have hlS : (q + i) / 8 < S.length := by rw [hT.len]; omega
        obtain ⟨y, hy0⟩ : ∃ y, y = S[(q + i) / 8] := ⟨_, rfl⟩
        have hy : y.toNat ≤ 255 := by have := y.toNat_lt; omega
        have hd : wr.cell? ⟨g4, (q + i) / 8, none⟩ = some (.int .u8 (y.toNat : Int)) := by rw [hy0]; exact hownS.cell _ hlS
        have hf : wr.frozen? ⟨g4, (q + i) / 8, none⟩ = false := hownS.frozen _
        have hownS' := hownS.turn hlS hy0
        have hbr' : Below w.heap.size w (wr.setCell ⟨g4, (q + i) / 8, none⟩ (.int .u8 (bits .xor .u8 (y.toNat : Int) (2 ^ ((q + i) % 8) % 256)))) := hbr.setCell (by show w.heap.size ≤ g4; omega) _
        have hownT' : OwnB (wr.setCell ⟨g4, (q + i) / 8, none⟩ (.int .u8 (bits .xor .u8 (y.toNat : Int) (2 ^ ((q + i) % 8) % 256)))) w.heap.size (.slice (some ⟨g, 0, none⟩) l.length c3) (turnL l q) :=
          hownT.kept (row := some g4) ((hownS.stored_grown _ _)) (.inr (by simp [Value.ownBlock]; omega))
        have H1 := hide hownS'
        have H2 := hide hownT'
        have H3 := hide hbr'
        clear hy0 hownS' hownT' hbr'
        go_wp2
        · go_roundw
          case rel => exact ⟨true, i + 1, turnL S (q + i), by omega, rfl, by go_num, by rw [length_turnL]; exact H1.out, H2.out, H3.out, hT.turn hin⟩
          case measure => simp [intOf]; omega
        · go_roundw
          case rel => exact ⟨any, i + 1, S, by omega, rfl, by go_num, hownS, hownT, hbr, hT.skip⟩
          case measure => simp [intOf]; omega
      · have hlenT : (turnL l q).length = l.length := length_turnL l q
        have hlenS : S.length = l.length := hT.len
        have hgw : g < wr.heap.size := hownT.lt
        have hg4w : g4 < wr.heap.size := hownS.lt
        have hb1 : Byt wr wr.heap.size (some ⟨g, 0, none⟩) (turnL l q) := OwnB.byt (c := c3) (by rw [hlenT]; exact hownT) hgw
        have hb2 : Byt wr wr.heap.size (some ⟨g4, 0, none⟩) S := hownS.byt hg4w
        have hb0 : Byt wr w.heap.size A l := hb.below hbr
        have call1 := fun W (hW : Byt W wr.heap.size (some ⟨g, 0, none⟩) (turnL l q)) => inet_any (some ⟨g, 0, none⟩) c3 (turnL l q) wr.heap.size W (by omega) (by omega) hW
        have call2 := fun W (hW : Byt W wr.heap.size (some ⟨g, 0, none⟩) (turnL l q)) => crc_any (some ⟨g, 0, none⟩) c3 (turnL l q) wr.heap.size W (by omega) (by omega) hW
        have call3 := fun W (hW : Byt W wr.heap.size (some ⟨g4, 0, none⟩) S) => crc_any (some ⟨g4, 0, none⟩) c4 S wr.heap.size W (by omega) (by omega) hW
        have n1 := inet_turn hq0
        have n2 := crc_turn hq0
        have n3 : any = true → moreB 0 S ≠ moreB 0 l := fun e => (e ▸ hT : Turned l S q i true).crc hi
        rw [hlenT] at call1 call2
        rw [hlenS] at call3
        generalize turnL l q = T1 at *
        obtain ⟨N1, hN1⟩ : ∃ N, N = inetS T1 := ⟨_, rfl⟩
        obtain ⟨N2, hN2⟩ : ∃ N, N = inetS l := ⟨_, rfl⟩
        obtain ⟨M1, hM1⟩ : ∃ M, M = (moreB 0 T1).toNat := ⟨_, rfl⟩
        obtain ⟨M2, hM2⟩ : ∃ M, M = (moreB 0 l).toNat := ⟨_, rfl⟩
        obtain ⟨M3, hM3⟩ : ∃ M, M = (moreB 0 S).toNat := ⟨_, rfl⟩
        have e1 : ((N1 : Int) != (N2 : Int)) = true := by rw [hN1, hN2]; simp only [bne_iff_ne, ne_eq]; intro e; exact n1 (by omega)
        have e2 : ((M1 : Int) != (M2 : Int)) = true := by
          rw [hM1, hM2]; simp only [bne_iff_ne, ne_eq]
          intro e; exact n2 (BitVec.eq_of_toNat_eq (by omega))
        have e3 : any = true → ((M3 : Int) != (M2 : Int)) = true := fun ha => by
          rw [hM3, hM2]; simp only [bne_iff_ne, ne_eq]
          intro e; exact n3 ha (BitVec.eq_of_toNat_eq (by omega))
        have call4 := fun W (hW : Byt W w.heap.size A l) => inet_any A c l w.heap.size W hl (by omega) hW
        have call5 := fun W (hW : Byt W w.heap.size A l) => crc_any A c l w.heap.size W hl (by omega) hW
        rw [← hN1] at call1
        rw [← hM1] at call2
        rw [← hM3] at call3
        rw [← hN2] at call4
        rw [← hM2] at call5
        have C1 := hide call1
        have C2 := hide call2
        have C3 := hide call3
        have C4 := hide call4
        have C5 := hide call5
        clear call1 call2 call3 call4 call5 n1 n2 n3 hN1 hN2 hM1 hM2 hM3 hownS hownT hT hlenT hlenS hcount
        by_cases h32 : i < 32
        all_goals cases any
        all_goals try have e3' := e3 rfl
        all_goals clear e3
        all_goals go_wp2_with fail
        all_goals refine (C1.out _ (by exact hb1)).mono ?_
        all_goals rintro e w5 ⟨rfl, k1, rfl⟩
        all_goals go_wp2_with fail
        all_goals refine (C4.out _ (by exact hb0)).mono ?_
        all_goals rintro e w5 ⟨rfl, k2, rfl⟩
        all_goals go_wp2_with fail
        all_goals refine (C2.out _ (by exact hb1)).mono ?_
        all_goals rintro e w5 ⟨rfl, rfl⟩
        all_goals go_wp2_with fail
        all_goals refine (C5.out _ (by exact hb0)).mono ?_
        all_goals rintro e w5 ⟨rfl, rfl⟩
        all_goals go_wp2_with fail
        all_goals try (refine (C3.out _ (by exact hb2)).mono ?_; rintro e w5 ⟨rfl, rfl⟩; go_wp2_with fail; refine (C5.out _ (by exact hb0)).mono ?_; rintro e w5 ⟨rfl, rfl⟩; go_wp2_with fail)
        all_goals refine (known_any _).mono ?_
        all_goals rintro e w9 ⟨rfl, hb9⟩
        all_goals go_wp2
        all_goals go_ret
        all_goals exact ⟨rfl, (below_drewN hbr _).trans (hb9.mono (by have := hbr.size; simp; omega))⟩

theorem sumsTurned_at (A : Option Addr) (c : Nat) (l : List UInt8) (at_ : Int) (n : Nat) (w : World) (hl : l.length ≤ c) (hc : l.length ≤ 140737488355320) (hb : Byt w w.heap.size A l) (hnil : A = none → c = 0) (hn : n ≤ 4294967295) :
    Calls Try.prog 14 #[.slice A l.length c, .int .i64 at_, .int .u32 (n : Int)] w fun e w' => e = .returned (.bool true) ∧ Below w.heap.size w w' := by
  have h := sumsTurned_any A c l at_ (BitVec.ofNat 32 n) w hl hc hb hnil
  rw [BitVec.toNat_ofNat, Nat.mod_eq_of_lt (by omega)] at h
  exact h
end Go.Proofs.Ytmfebpagjfkclaa
