/-
  The walk of the document's own Lay, of numbers.
-/
import Derived.Test.YtcfckhdohcaffaaMih
namespace Go.Proofs.Ytcfckhdohcaffaa
open Go.RowKit
set_option maxRecDepth 100000
set_option linter.unusedVariables false
set_option linter.unusedSimpArgs false

set_option maxHeartbeats 8000000 in
theorem refrightN_any (w : World) (N m : Nat) (hm1 : 1 ≤ m) (hm8 : m ≤ 8) (hN : N < 256 ^ m) :
    Calls Try.prog 56 #[.agg #[.int .u64 (N : Int), .slice none 0 0], .agg #[.int .i64 0, .int .i64 (m : Int)]] w fun e w' => e = .returned (.bool true) ∧ Below w.heap.size w w' := by
  by_cases h8 : m = 8
  · subst h8
    clear hN
    go_enter Try.func56, Try.ntmps56
    go_wp2
    go_ret
    exact ⟨rfl, ((Below.refl _ _).alloc (Nat.le_refl _) _).alloc (by simp) _⟩
  · have e8 : ((m : Int) == 8) = false := by rw [beq_eq_false_iff_ne]; omega
    have g1 : (1 : Int) ≤ (m : Int) := by omega
    have g2 : (m : Int) ≤ 8 := by omega
    have hw : IntKind.i64.wrap (8 * (m : Int)) = 8 * (m : Int) := IntWalk.i64_in _ (by omega)
    have hu : IntKind.u64.wrap (8 * (m : Int)) = 8 * (m : Int) := IntWalk.u64_in _ (by omega)
    obtain ⟨P, hP⟩ : ∃ P : Nat, P = 2 ^ (8 * m) := ⟨_, rfl⟩
    have hP56 : P ≤ 2 ^ 56 := by rw [hP]; exact Nat.pow_le_pow_right (by decide) (by omega)
    have hlt : (N : Int) < (P : Int) := by rw [pow256] at hN; omega
    have hpw : IntKind.u64.wrap ((2 : Int) ^ (8 * m)) = (P : Int) := by
      rw [show ((2 : Int) ^ (8 * m)) = (P : Int) by rw [hP]; simp]
      exact IntWalk.u64_in _ (by omega)
    have hlt' : ¬ (P : Int) ≤ (N : Int) := by omega
    clear hm1 hm8 hN hP hP56
    go_enter Try.func56, Try.ntmps56
    go_wp2
    go_ret
    exact ⟨rfl, ((Below.refl _ _).alloc (Nat.le_refl _) _).alloc (by simp) _⟩

set_option maxRecDepth 100000 in
set_option maxHeartbeats 4000000 in
theorem reflayN_any (w : World) (Av Ao : Option Addr) (cv co : Nat) (fl : List (Nat × Nat)) (hv : RdV w w.heap.size Av (fldV fl)) (ho : Ops w w.heap.size Ao (fldO fl)) (hok : fldOk fl) (hl : fl.length ≤ 4096) :
    Calls Try.prog 33 #[.slice Av fl.length cv, .slice Ao fl.length co] w fun e w' => ∃ A c, e = .returned (.tuple #[.slice A (fldB fl).length c, .int .i64 0]) ∧ OwnB w' w.heap.size (.slice A (fldB fl).length c) (fldB fl) ∧ Below w.heap.size w w' := by
  have hbi : ¬ (4096 : Int) < (fl.length : Int) := by omega
  have HV := hide hv
  have HO := hide ho
  have HOK := hide hok
  have HL := hide hl
  clear hv ho hok hl
  go_enter Try.func33, Try.ntmps33
  go_wp2
  go_loopw [6, 7, 8, 9, 10] (fun v i _ _ _ wr => ∃ (j : Nat), j ≤ fl.length ∧ i = .int .i64 (j : Int) ∧ Hid (OwnB wr w.heap.size v (fldB (fl.take j))) ∧ Hid (Below w.heap.size w wr))
    (fun _ i _ _ _ _ => fl.length - (intOf i).toNat)
  case atStart => exact ⟨0, by omega, rfl, hide (OwnB.nil _ _), hide (Below.refl _ _)⟩
  case round =>
    obtain ⟨j, hj, rfl, hown, hb⟩ := hrel
    by_cases hlt : j < fl.length
    · obtain ⟨bv, ov, rfl, hbv, hcv⟩ := HV.out (by simp [fldV]; omega)
      obtain ⟨bo, oo, rfl, hbo, hco⟩ := HO.out (by simp [fldO]; omega)
      obtain ⟨hv0, hv1⟩ := hcv j (by simp [fldV]; omega)
      obtain ⟨ho0, ho1⟩ := hco j (by simp [fldO]; omega)
      obtain ⟨m, hm⟩ : ∃ m, m = (fl[j]).1 := ⟨_, rfl⟩
      obtain ⟨N, hN⟩ : ∃ N, N = (fl[j]).2 := ⟨_, rfl⟩
      obtain ⟨hm1, hm8, hNm, -⟩ := HOK.out (fl[j]) (List.getElem_mem hlt)
      rw [← hm] at hm1 hm8 hNm
      rw [← hN] at hNm
      have v0 : wr.cell? ⟨bv, ov + j * 2, none⟩ = some (.int .u64 (N : Int)) := (hb.out.cell (by exact hbv)).trans (by rw [hv0]; simp [fldV, hN])
      have v1 : wr.cell? ⟨bv, ov + j * 2 + 1, none⟩ = some (.slice none 0 0) := (hb.out.cell (by exact hbv)).trans (by rw [hv1]; simp [fldV])
      have o0 : wr.cell? ⟨bo, oo + j * 2, none⟩ = some (.int .i64 0) := (hb.out.cell (by exact hbo)).trans (by rw [ho0]; simp [fldO])
      have o1 : wr.cell? ⟨bo, oo + j * 2 + 1, none⟩ = some (.int .i64 (m : Int)) := (hb.out.cell (by exact hbo)).trans (by rw [ho1]; simp [fldO, hm])
      have hj0 : (0 : Int) ≤ (j : Int) := by omega
      have hj1 : (j : Int) < (fl.length : Int) := by omega
      have HW0 := hide (And.intro (show w.cell? ⟨bv, ov + j * 2, none⟩ = some (.int .u64 (N : Int)) by rw [hv0]; simp [fldV, hN]) (And.intro (show w.cell? ⟨bv, ov + j * 2 + 1, none⟩ = some (.slice none 0 0) by rw [hv1]; simp [fldV]) (And.intro (show w.cell? ⟨bo, oo + j * 2, none⟩ = some (.int .i64 0) by rw [ho0]; simp [fldO]) (show w.cell? ⟨bo, oo + j * 2 + 1, none⟩ = some (.int .i64 (m : Int)) by rw [ho1]; simp [fldO, hm]))))
      have KR := hide (fun W1 => refrightN_any W1 N m hm1 hm8 hNm)
      have HM1 := hide hm1
      have HM8 := hide hm8
      have HNM := hide hNm
      have hsn : fldB (fl.take (j + 1)) = fldB (fl.take j) ++ numBytes N m m := by
        rw [fld_take hlt]; unfold fldB; rw [List.flatMap_append]; simp [hm, hN]
      have HSN := hide hsn
      clear hv0 hv1 ho0 ho1 hm hN hcv hco hm1 hm8 hNm hsn
      obtain ⟨B, hB⟩ : ∃ B, B = fldB (fl.take j) := ⟨_, rfl⟩
      have hBl : B.length ≤ 32768 := by
        rw [hB]
        have e : ∀ (g : List (Nat × Nat)), (∀ f ∈ g, f.1 ≤ 8) → (fldB g).length ≤ 8 * g.length := fun g => by
          induction g with
          | nil => intro _; simp [fldB]
          | cons a g ih => intro h; have := ih (fun f hf => h f (List.mem_cons_of_mem _ hf)); have := h a (List.mem_cons_self ..); simp [fldB, length_numBytes] at *; omega
        have e2 := e (fl.take j) (fun f hf => (HOK.out f (List.mem_of_mem_take hf)).2.1)
        rw [List.length_take] at e2
        have := HL.out
        omega
      rw [← hB] at hown HSN
      obtain ⟨Ab, cb, rfl, -⟩ := hown.out.shape
      have hwr : IntKind.i64.wrap (65535 - (B.length : Int)) = 65535 - (B.length : Int) := IntWalk.i64_in _ (by omega)
      have hgt : ¬ (65535 - (B.length : Int) < (m : Int)) := by have := HM8.out; omega
      have HBL := hide hBl
      clear hB hBl
      have HK := hide (fun (W1 : World) (b : Below wr.heap.size wr W1) => four_at b (p := ⟨bv, ov + j * 2, none⟩) (q := ⟨bv, ov + j * 2 + 1, none⟩) (r := ⟨bo, oo + j * 2, none⟩) (s := ⟨bo, oo + j * 2 + 1, none⟩) (Nat.lt_of_lt_of_le hbv hb.out.size) (Nat.lt_of_lt_of_le hbv hb.out.size) (Nat.lt_of_lt_of_le hbo hb.out.size) (Nat.lt_of_lt_of_le hbo hb.out.size) ⟨v0, v1, o0, o1⟩)
      obtain ⟨dv0, dv1, do0, do1⟩ := HK.out wr.drew (Below.refl _ _).drew
      have hbv' := hide hbv
      have hbo' := hide hbo
      clear hbv hbo
      go_wp2_with fail
      go_region_held3 (fun w' => w'.cell? ⟨bv, ov + j * 2, none⟩ = some (.int .u64 (N : Int)) ∧ w'.cell? ⟨bv, ov + j * 2 + 1, none⟩ = some (.slice none 0 0) ∧ w'.cell? ⟨bo, oo + j * 2, none⟩ = some (.int .i64 0) ∧ w'.cell? ⟨bo, oo + j * 2 + 1, none⟩ = some (.int .i64 (m : Int)))
        (first | exact ⟨v0, v1, o0, o1⟩ | exact ⟨dv0, dv1, do0, do1⟩ | exact ⟨x0, x1, y0, y1⟩ | fail)
        (first
          | (go_at_call 56; (with_reducible refine (KR.out wr.drew).mono ?_); rintro e w1 ⟨rfl, b1⟩; have B1 : Hid (Below wr.heap.size wr w1) := hide (below_undrew b1); obtain ⟨x0, x1, y0, y1⟩ := HK.out w1 B1.out; clear b1)
          | fail)
      have O1 : Hid (OwnB w1 w.heap.size (.slice Ab B.length cb) B) := hide (World.ownsRow.kept hown.out (below_row B1.out none) (Classical.em _))
      have C1 : Hid (Below w.heap.size w w1) := hide (hb.out.trans (B1.out.mono hb.out.size))
      clear v0 v1 o0 o1 dv0 dv1 do0 do1 hown
      go_wp2
      clear x0 x1 y0 y1
      go_loopw [6, 9, 10] (fun v k _ wr2 => ∃ (i : Nat), i ≤ m ∧ k = .int .i64 (i : Int) ∧ Hid (OwnB wr2 w.heap.size v (B ++ numBytes N m i)) ∧ Hid (Below w.heap.size w wr2))
        (fun _ k _ _ => m - (intOf k).toNat)
      case atStart => exact ⟨0, by omega, rfl, hide (by simpa [numBytes] using O1.out), C1⟩
      case round =>
        obtain ⟨i, hi, rfl, hown2, hb2⟩ := hrel
        obtain ⟨x0, x1, y0, y1⟩ := four_at hb2.out (p := ⟨bv, ov + j * 2, none⟩) (q := ⟨bv, ov + j * 2 + 1, none⟩) (r := ⟨bo, oo + j * 2, none⟩) (s := ⟨bo, oo + j * 2 + 1, none⟩) hbv'.out hbv'.out hbo'.out hbo'.out HW0.out
        by_cases hlti : i < m
        · have hm8 := HM8.out
          obtain ⟨p, hp⟩ : ∃ p : Nat, (m : Int) - 1 - (i : Int) = (p : Int) := ⟨m - 1 - i, by omega⟩
          have hpm : p ≤ 7 := by omega
          have hpe : m - 1 - i = p := by omega
          have hw1 : IntKind.i64.wrap ((m : Int) - 1) = (m : Int) - 1 := IntWalk.i64_in _ (by omega)
          have hw2 : IntKind.i64.wrap ((m : Int) - 1 - (i : Int)) = (p : Int) := by rw [hp]; exact IntWalk.i64_in _ (by omega)
          have hw3 : IntKind.i64.wrap (8 * (p : Int)) = 8 * (p : Int) := IntWalk.i64_in _ (by omega)
          have hw4 : IntKind.u64.wrap (8 * (p : Int)) = 8 * (p : Int) := IntWalk.u64_in _ (by omega)
          have hcs := hide (one_byte N p)
          have hnb : numBytes N m (i + 1) = numBytes N m i ++ [UInt8.ofNat (N / 2 ^ (8 * p))] := by rw [numBytes_succ, hpe]
          have HNB := hide hnb
          have hlen : Hid ((B ++ numBytes N m i).length ≤ 40000) := hide (by rw [List.length_append, length_numBytes]; have := HBL.out; omega)
          clear hp hpe hnb hm8
          go_wp2_with (at_builtin; go_loud (refine wpList_app_bytes rfl (.tmp 103) (.tmp 105) rfl w.heap.size u6 (B ++ numBytes N m i) [UInt8.ofNat (N / 2 ^ (8 * p))] (wr.heap.size + 1) 1 (some ⟨wr.heap.size, 0, none⟩) rfl rfl (by exact hown2.out.alloc _) (by exact Byt.lit wr [UInt8.ofNat (N / 2 ^ (8 * p))] _ _ (0, 0) hcs.out) (fun e => by cases e) (by have := hlen.out; simp only [List.length_cons, List.length_nil]; omega) (by have := hb2.out.size; simp; omega) ?_))
          intro v4 w4 o4 g4 a4
          have hg4 : wr.grownBy w4 u6.ownBlock := grown_trans (World.grownBy_alloc wr _ _) g4
          have B4 : Hid (Below w.heap.size w w4) := hide (hb2.out.grown hg4 hb2.out.size (fun k hk => (World.ownsRow.lt hown2.out k hk).1))
          have O4 : Hid (OwnB w4 w.heap.size v4 (B ++ numBytes N m (i + 1))) := hide (by rw [HNB.out]; exact o4)
          clear o4 g4 a4 hg4 x0 x1 y0 y1 hown2 hb2
          go_wp2
          go_roundw
          case rel => exact ⟨i + 1, by omega, by go_num, O4, B4⟩
          case measure => simp [intOf]; omega
        · have him : i = m := by omega
          subst him
          have O5 : Hid (OwnB wr w.heap.size u6 (fldB (fl.take (j + 1)))) := hide (by rw [HSN.out]; exact hown2.out)
          clear hlti x0 x1 y0 y1
          go_wp2
          go_roundw
          case rel => exact ⟨j + 1, by omega, by go_num, O5, hb2⟩
          case measure => simp [intOf]; omega
    · have hjl : j = fl.length := by omega
      subst hjl
      rw [List.take_length] at hown
      obtain ⟨A, c, rfl, -⟩ := hown.out.shape
      clear hlt
      go_wp2
      go_ret2
      exact ⟨A, c, rfl, hown.out, hb.out⟩
end Go.Proofs.Ytcfckhdohcaffaa
