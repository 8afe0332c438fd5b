import Derived.Test.YtihakjcccbionaaGreatDoorMih
import Derived.Test.YtihakjcccbionaaGreatDoorMkn
import Derived.Test.YtihakjcccbionaaGreatDoorMrw
import Derived.Test.YtihakjcccbionaaGreatDoorMkx
import Derived.Deep.RegionHeld3
section
/-
  The walk of the document's own Lay, of numbers.
-/
namespace Go.Proofs.YtihakjcccbionaaGreatDoor
open Go.RowKit
set_option maxRecDepth 100000
set_option linter.unusedVariables false
set_option linter.unusedSimpArgs false

set_option maxHeartbeats 8000000 in
theorem refrightN_any (w : World) (N m : Nat) (hm1 : 1 ≤ m) (hm8 : m ≤ 8) (hN : N < 256 ^ m) :
    Calls Tryz.prog 76 #[.agg #[.int .u64 (N : Int), .slice none 0 0], .agg #[.int .i64 0, .int .i64 (m : Int)]] w fun e w' => e = .returned (.bool true) ∧ Below w.heap.size w w' := by
  by_cases h8 : m = 8
  · subst h8
    clear hN
    go_enter Tryz.func76, Tryz.ntmps76
    go_wp2
    go_ret
    exact ⟨rfl, ((Below.refl _ _).alloc (Nat.le_refl _) _).alloc (by simp) _⟩
  · have e8 : ((m : Int) == 8) = false := by rw [beq_eq_false_iff_ne]; omega
    have g1 : (1 : Int) ≤ (m : Int) := by omega
    have g2 : (m : Int) ≤ 8 := by omega
    have hw : IntKind.i64.wrap (8 * (m : Int)) = 8 * (m : Int) := IntWalk.i64_in _ (by omega)
    have hu : IntKind.u64.wrap (8 * (m : Int)) = 8 * (m : Int) := IntWalk.u64_in _ (by omega)
    obtain ⟨P, hP⟩ : ∃ P : Nat, P = 2 ^ (8 * m) := ⟨_, rfl⟩
    have hP56 : P ≤ 2 ^ 56 := by rw [hP]; exact Nat.pow_le_pow_right (by decide) (by omega)
    have hlt : (N : Int) < (P : Int) := by rw [pow256] at hN; omega
    have hpw : IntKind.u64.wrap ((2 : Int) ^ (8 * m)) = (P : Int) := by
      rw [show ((2 : Int) ^ (8 * m)) = (P : Int) by rw [hP]; simp]
      exact IntWalk.u64_in _ (by omega)
    have hlt' : ¬ (P : Int) ≤ (N : Int) := by omega
    clear hm1 hm8 hN hP hP56
    go_enter Tryz.func76, Tryz.ntmps76
    go_wp2
    go_ret
    exact ⟨rfl, ((Below.refl _ _).alloc (Nat.le_refl _) _).alloc (by simp) _⟩

set_option maxRecDepth 100000 in
set_option maxHeartbeats 4000000 in
theorem reflayN_any (w : World) (Av Ao : Option Addr) (cv co : Nat) (fl : List (Nat × Nat)) (hv : RdV w w.heap.size Av (fldV fl)) (ho : Ops w w.heap.size Ao (fldO fl)) (hok : fldOk fl) (hl : fl.length ≤ 4096) :
    Calls Tryz.prog 42 #[.slice Av fl.length cv, .slice Ao fl.length co] w fun e w' => ∃ A c, e = .returned (.tuple #[.slice A (fldB fl).length c, .int .i64 0]) ∧ OwnB w' w.heap.size (.slice A (fldB fl).length c) (fldB fl) ∧ Below w.heap.size w w' := by
  have hbi : ¬ (4096 : Int) < (fl.length : Int) := by omega
  have HV := hide hv
  have HO := hide ho
  have HOK := hide hok
  have HL := hide hl
  clear hv ho hok hl
  go_enter Tryz.func42, Tryz.ntmps42
  go_wp2
  go_loopw [6, 7, 8, 9, 10] (fun v i _ _ _ wr => ∃ (j : Nat), j ≤ fl.length ∧ i = .int .i64 (j : Int) ∧ Hid (OwnB wr w.heap.size v (fldB (fl.take j))) ∧ Hid (Below w.heap.size w wr))
    (fun _ i _ _ _ _ => fl.length - (intOf i).toNat)
  case atStart => exact ⟨0, by omega, rfl, hide (OwnB.nil _ _), hide (Below.refl _ _)⟩
  case round =>
    obtain ⟨j, hj, rfl, hown, hb⟩ := hrel
    by_cases hlt : j < fl.length
    · obtain ⟨bv, ov, rfl, hbv, hcv⟩ := HV.out (by simp [fldV]; omega)
      obtain ⟨bo, oo, rfl, hbo, hco⟩ := HO.out (by simp [fldO]; omega)
      obtain ⟨hv0, hv1⟩ := hcv j (by simp [fldV]; omega)
      obtain ⟨ho0, ho1⟩ := hco j (by simp [fldO]; omega)
      obtain ⟨m, hm⟩ : ∃ m, m = (fl[j]).1 := ⟨_, rfl⟩
      obtain ⟨N, hN⟩ : ∃ N, N = (fl[j]).2 := ⟨_, rfl⟩
      obtain ⟨hm1, hm8, hNm, -⟩ := HOK.out (fl[j]) (List.getElem_mem hlt)
      rw [← hm] at hm1 hm8 hNm
      rw [← hN] at hNm
      have v0 : wr.cell? ⟨bv, ov + j * 2, none⟩ = some (.int .u64 (N : Int)) := (hb.out.cell (by exact hbv)).trans (by rw [hv0]; simp [fldV, hN])
      have v1 : wr.cell? ⟨bv, ov + j * 2 + 1, none⟩ = some (.slice none 0 0) := (hb.out.cell (by exact hbv)).trans (by rw [hv1]; simp [fldV])
      have o0 : wr.cell? ⟨bo, oo + j * 2, none⟩ = some (.int .i64 0) := (hb.out.cell (by exact hbo)).trans (by rw [ho0]; simp [fldO])
      have o1 : wr.cell? ⟨bo, oo + j * 2 + 1, none⟩ = some (.int .i64 (m : Int)) := (hb.out.cell (by exact hbo)).trans (by rw [ho1]; simp [fldO, hm])
      have hj0 : (0 : Int) ≤ (j : Int) := by omega
      have hj1 : (j : Int) < (fl.length : Int) := by omega
      have HW0 := hide (And.intro (show w.cell? ⟨bv, ov + j * 2, none⟩ = some (.int .u64 (N : Int)) by rw [hv0]; simp [fldV, hN]) (And.intro (show w.cell? ⟨bv, ov + j * 2 + 1, none⟩ = some (.slice none 0 0) by rw [hv1]; simp [fldV]) (And.intro (show w.cell? ⟨bo, oo + j * 2, none⟩ = some (.int .i64 0) by rw [ho0]; simp [fldO]) (show w.cell? ⟨bo, oo + j * 2 + 1, none⟩ = some (.int .i64 (m : Int)) by rw [ho1]; simp [fldO, hm]))))
      have KR := hide (fun W1 => refrightN_any W1 N m hm1 hm8 hNm)
      have HM1 := hide hm1
      have HM8 := hide hm8
      have HNM := hide hNm
      have hsn : fldB (fl.take (j + 1)) = fldB (fl.take j) ++ numBytes N m m := by
        rw [fld_take hlt]; unfold fldB; rw [List.flatMap_append]; simp [hm, hN]
      have HSN := hide hsn
      clear hv0 hv1 ho0 ho1 hm hN hcv hco hm1 hm8 hNm hsn
      obtain ⟨B, hB⟩ : ∃ B, B = fldB (fl.take j) := ⟨_, rfl⟩
      have hBl : B.length ≤ 32768 := by
        rw [hB]
        have e : ∀ (g : List (Nat × Nat)), (∀ f ∈ g, f.1 ≤ 8) → (fldB g).length ≤ 8 * g.length := fun g => by
          induction g with
          | nil => intro _; simp [fldB]
          | cons a g ih => intro h; have := ih (fun f hf => h f (List.mem_cons_of_mem _ hf)); have := h a (List.mem_cons_self ..); simp [fldB, length_numBytes] at *; omega
        have e2 := e (fl.take j) (fun f hf => (HOK.out f (List.mem_of_mem_take hf)).2.1)
        rw [List.length_take] at e2
        have := HL.out
        omega
      rw [← hB] at hown HSN
      obtain ⟨Ab, cb, rfl, -⟩ := hown.out.shape
      have hwr : IntKind.i64.wrap (65535 - (B.length : Int)) = 65535 - (B.length : Int) := IntWalk.i64_in _ (by omega)
      have hgt : ¬ (65535 - (B.length : Int) < (m : Int)) := by have := HM8.out; omega
      have HBL := hide hBl
      clear hB hBl
      have HK := hide (fun (W1 : World) (b : Below wr.heap.size wr W1) => four_at b (p := ⟨bv, ov + j * 2, none⟩) (q := ⟨bv, ov + j * 2 + 1, none⟩) (r := ⟨bo, oo + j * 2, none⟩) (s := ⟨bo, oo + j * 2 + 1, none⟩) (Nat.lt_of_lt_of_le hbv hb.out.size) (Nat.lt_of_lt_of_le hbv hb.out.size) (Nat.lt_of_lt_of_le hbo hb.out.size) (Nat.lt_of_lt_of_le hbo hb.out.size) ⟨v0, v1, o0, o1⟩)
      obtain ⟨dv0, dv1, do0, do1⟩ := HK.out wr.drew (Below.refl _ _).drew
      have hbv' := hide hbv
      have hbo' := hide hbo
      clear hbv hbo
      go_wp2_with fail
      go_region_held3 (fun w' => w'.cell? ⟨bv, ov + j * 2, none⟩ = some (.int .u64 (N : Int)) ∧ w'.cell? ⟨bv, ov + j * 2 + 1, none⟩ = some (.slice none 0 0) ∧ w'.cell? ⟨bo, oo + j * 2, none⟩ = some (.int .i64 0) ∧ w'.cell? ⟨bo, oo + j * 2 + 1, none⟩ = some (.int .i64 (m : Int)))
        (first | exact ⟨v0, v1, o0, o1⟩ | exact ⟨dv0, dv1, do0, do1⟩ | exact ⟨x0, x1, y0, y1⟩ | fail)
        (first
          | (go_at_call 76; (with_reducible refine (KR.out wr.drew).mono ?_); rintro e w1 ⟨rfl, b1⟩; have B1 : Hid (Below wr.heap.size wr w1) := hide (below_undrew b1); obtain ⟨x0, x1, y0, y1⟩ := HK.out w1 B1.out; clear b1)
          | fail)
      have O1 : Hid (OwnB w1 w.heap.size (.slice Ab B.length cb) B) := hide (World.ownsRow.kept hown.out (below_row B1.out none) (Classical.em _))
      have C1 : Hid (Below w.heap.size w w1) := hide (hb.out.trans (B1.out.mono hb.out.size))
      clear v0 v1 o0 o1 dv0 dv1 do0 do1 hown
      go_wp2
      clear x0 x1 y0 y1
      go_loopw [6, 9, 10] (fun v k _ wr2 => ∃ (i : Nat), i ≤ m ∧ k = .int .i64 (i : Int) ∧ Hid (OwnB wr2 w.heap.size v (B ++ numBytes N m i)) ∧ Hid (Below w.heap.size w wr2))
        (fun _ k _ _ => m - (intOf k).toNat)
      case atStart => exact ⟨0, by omega, rfl, hide (by simpa [numBytes] using O1.out), C1⟩
      case round =>
        obtain ⟨i, hi, rfl, hown2, hb2⟩ := hrel
        obtain ⟨x0, x1, y0, y1⟩ := four_at hb2.out (p := ⟨bv, ov + j * 2, none⟩) (q := ⟨bv, ov + j * 2 + 1, none⟩) (r := ⟨bo, oo + j * 2, none⟩) (s := ⟨bo, oo + j * 2 + 1, none⟩) hbv'.out hbv'.out hbo'.out hbo'.out HW0.out
        by_cases hlti : i < m
        · have hm8 := HM8.out
          obtain ⟨p, hp⟩ : ∃ p : Nat, (m : Int) - 1 - (i : Int) = (p : Int) := ⟨m - 1 - i, by omega⟩
          have hpm : p ≤ 7 := by omega
          have hpe : m - 1 - i = p := by omega
          have hw1 : IntKind.i64.wrap ((m : Int) - 1) = (m : Int) - 1 := IntWalk.i64_in _ (by omega)
          have hw2 : IntKind.i64.wrap ((m : Int) - 1 - (i : Int)) = (p : Int) := by rw [hp]; exact IntWalk.i64_in _ (by omega)
          have hw3 : IntKind.i64.wrap (8 * (p : Int)) = 8 * (p : Int) := IntWalk.i64_in _ (by omega)
          have hw4 : IntKind.u64.wrap (8 * (p : Int)) = 8 * (p : Int) := IntWalk.u64_in _ (by omega)
          have hcs := hide (one_byte N p)
          have hnb : numBytes N m (i + 1) = numBytes N m i ++ [UInt8.ofNat (N / 2 ^ (8 * p))] := by rw [numBytes_succ, hpe]
          have HNB := hide hnb
          have hlen : Hid ((B ++ numBytes N m i).length ≤ 40000) := hide (by rw [List.length_append, length_numBytes]; have := HBL.out; omega)
          clear hp hpe hnb hm8
          go_wp2_with (at_builtin; go_loud (refine wpList_app_bytes rfl (.tmp 103) (.tmp 105) rfl w.heap.size u6 (B ++ numBytes N m i) [UInt8.ofNat (N / 2 ^ (8 * p))] (wr.heap.size + 1) 1 (some ⟨wr.heap.size, 0, none⟩) rfl rfl (by exact hown2.out.alloc _) (by exact Byt.lit wr [UInt8.ofNat (N / 2 ^ (8 * p))] _ _ (0, 0) hcs.out) (fun e => by cases e) (by have := hlen.out; simp only [List.length_cons, List.length_nil]; omega) (by have := hb2.out.size; simp; omega) ?_))
          intro v4 w4 o4 g4 a4
          have hg4 : wr.grownBy w4 u6.ownBlock := grown_trans (World.grownBy_alloc wr _ _) g4
          have B4 : Hid (Below w.heap.size w w4) := hide (hb2.out.grown hg4 hb2.out.size (fun k hk => (World.ownsRow.lt hown2.out k hk).1))
          have O4 : Hid (OwnB w4 w.heap.size v4 (B ++ numBytes N m (i + 1))) := hide (by rw [HNB.out]; exact o4)
          clear o4 g4 a4 hg4 x0 x1 y0 y1 hown2 hb2
          go_wp2
          go_roundw
          case rel => exact ⟨i + 1, by omega, by go_num, O4, B4⟩
          case measure => simp [intOf]; omega
        · have him : i = m := by omega
          subst him
          have O5 : Hid (OwnB wr w.heap.size u6 (fldB (fl.take (j + 1)))) := hide (by rw [HSN.out]; exact hown2.out)
          clear hlti x0 x1 y0 y1
          go_wp2
          go_roundw
          case rel => exact ⟨j + 1, by omega, by go_num, O5, hb2⟩
          case measure => simp [intOf]; omega
    · have hjl : j = fl.length := by omega
      subst hjl
      rw [List.take_length] at hown
      obtain ⟨A, c, rfl, -⟩ := hown.out.shape
      clear hlt
      go_wp2
      go_ret2
      exact ⟨A, c, rfl, hown.out, hb.out⟩
end Go.Proofs.YtihakjcccbionaaGreatDoor

end
section
/-
  The walks of the document's word and Right, of a segment within a packet.
-/
namespace Go.Proofs.YtihakjcccbionaaGreatDoor
open Go.RowKit
attribute [local go_sem ↓] exec_span exec_put exec_build heap_alloc_new heap_old
attribute [local go_sem] spanQ_ptr spanC_some heap_of_drew heap_of_drewN rs_arr rs_ad rs_ip rs_rip rs_seg rs_rseg putAt_ptr putOk_ptr oldOk_some World.setRow_alloc_new
set_option maxRecDepth 100000
set_option linter.unusedVariables false
set_option linter.unusedSimpArgs false

def wordL (n : Int) : Bool := decide (0 ≤ n) && decide (n ≤ 65535)
theorem word5_any (n : Int) (w : World) : Calls Tryz.prog 75 #[.int .i64 n] w fun e w' => e = .returned (.bool (wordL n)) ∧ w = w' := by
  by_cases h1 : 0 ≤ n
  · by_cases h2 : n ≤ 65535
    · go_enter Tryz.func75, Tryz.ntmps75
      go_wp2
      go_ret
      exact ⟨by simp [wordL, h1, h2], rfl⟩
    · go_enter Tryz.func75, Tryz.ntmps75
      go_wp2
      go_ret
      exact ⟨by simp [wordL, h1, h2], rfl⟩
  · go_enter Tryz.func75, Tryz.ntmps75
    go_wp2
    go_ret
    exact ⟨by simp [wordL]; omega, rfl⟩

def rightR5 (h : Ip) (s : Sg) : Bool := rightS s && !(s.ns && h.v)
theorem rightR5_eq (h : Ip) (s : Sg) : rightR5 h s = (wordL s.a && (wordL s.b && (if s.p = 6 then decide (0 ≤ s.f) && (decide (s.f ≤ 255) && (wordL s.wn && (wordL s.u && (decide (s.no ≤ 40) && (s.no % 4 == 0 && !s.ns))))) else s.q == 0 && (s.k == 0 && (s.f == 0 && (s.wn == 0 && (s.u == 0 && (s.no == 0 && !(s.ns && h.v))))))))) := by
  unfold rightR5 rightS upL wordL
  by_cases h6 : s.p = 6
  · rw [if_pos h6, if_pos h6]
    cases s.ns <;> simp [Bool.and_assoc]
  · rw [if_neg h6, if_neg h6]
    have e : ∀ z : Int, (decide (0 ≤ z) && decide (z ≤ 0)) = (z == 0) := fun z => by rw [Bool.eq_iff_iff]; simp; omega
    simp [e, Bool.and_assoc]

set_option maxHeartbeats 8000000 in
theorem refright5_any (w : World) (X Y : Array Value) (h : Ip) (s : Sg) (x : IpV X h) (y : SgV Y s) :
    Calls Tryz.prog 41 #[.agg X, .agg Y] w fun e w' => e = .returned (.bool (rightR5 h s)) ∧ Below w.heap.size w w' := by
  have hxs := x.size
  have hys := y.size
  obtain ⟨W, hW⟩ : ∃ W, (w.alloc (.cells X 62)).alloc (.cells Y 64) = W := ⟨_, rfl⟩
  obtain ⟨r1, r2, hz, hbW⟩ := two_packs w X _ _ _ W hW
  obtain ⟨R, hR⟩ : ∃ R, R = rightR5 h s := ⟨_, rfl⟩
  rw [← hR]
  rw [rightR5_eq] at hR
  have hi := (x.cells r1).c0
  obtain ⟨c0, c1, c2, c3, c4, c5, c6, c7, c8, c9, c10⟩ := y.cells r2
  have KA := hide (word5_any s.a)
  have KB := hide (word5_any s.b)
  have KW := hide (word5_any s.wn)
  have KU := hide (word5_any s.u)
  obtain ⟨ra, hra⟩ : ∃ r, r = wordL s.a := ⟨_, rfl⟩
  obtain ⟨rb, hrb⟩ : ∃ r, r = wordL s.b := ⟨_, rfl⟩
  obtain ⟨rw_, hrw⟩ : ∃ r, r = wordL s.wn := ⟨_, rfl⟩
  obtain ⟨ru, hru⟩ : ∃ r, r = wordL s.u := ⟨_, rfl⟩
  rw [← hra, ← hrb, ← hrw, ← hru] at hR
  rw [← hra] at KA
  rw [← hrb] at KB
  rw [← hrw] at KW
  rw [← hru] at KU
  clear hra hrb hrw hru x y
  obtain ⟨p, hp⟩ : ∃ v, v = s.p := ⟨_, rfl⟩
  obtain ⟨q, hq⟩ : ∃ v, v = s.q := ⟨_, rfl⟩
  obtain ⟨k, hk⟩ : ∃ v, v = s.k := ⟨_, rfl⟩
  obtain ⟨f, hf⟩ : ∃ v, v = s.f := ⟨_, rfl⟩
  obtain ⟨wn, hwn⟩ : ∃ v, v = s.wn := ⟨_, rfl⟩
  obtain ⟨u, hu⟩ : ∃ v, v = s.u := ⟨_, rfl⟩
  obtain ⟨no, hno⟩ : ∃ v, v = s.no := ⟨_, rfl⟩
  obtain ⟨ns, hns⟩ : ∃ v, v = s.ns := ⟨_, rfl⟩
  obtain ⟨v, hv⟩ : ∃ v, v = h.v := ⟨_, rfl⟩
  rw [← hp, ← hq, ← hk, ← hf, ← hwn, ← hu, ← hno, ← hns, ← hv] at hR
  rw [← hp] at c0
  rw [← hq] at c3
  rw [← hk] at c4
  rw [← hf] at c5
  rw [← hwn] at c6 KW
  rw [← hu] at c7 KU
  rw [← hns] at c8
  rw [← hno] at c9
  rw [← hv] at hi
  have HB := hide hbW
  clear hp hq hk hf hwn hu hno hns hv hbW hz
  have fin : ∀ b : Bool, b = R → Ending.returned (.bool b) = Ending.returned (.bool R) := fun b e => by rw [e]
  have key : (ra = false ∧ R = false) ∨ (ra = true ∧ rb = false ∧ R = false)
    ∨ (ra = true ∧ rb = true ∧ p = 6 ∧ ¬ 0 ≤ f ∧ R = false) ∨ (ra = true ∧ rb = true ∧ p = 6 ∧ 0 ≤ f ∧ ¬ f ≤ 255 ∧ R = false) ∨ (ra = true ∧ rb = true ∧ p = 6 ∧ 0 ≤ f ∧ f ≤ 255 ∧ rw_ = false ∧ R = false) ∨ (ra = true ∧ rb = true ∧ p = 6 ∧ 0 ≤ f ∧ f ≤ 255 ∧ rw_ = true ∧ ru = false ∧ R = false)
    ∨ (ra = true ∧ rb = true ∧ p = 6 ∧ 0 ≤ f ∧ f ≤ 255 ∧ rw_ = true ∧ ru = true ∧ ¬ (no : Int) ≤ 40 ∧ R = false) ∨ (ra = true ∧ rb = true ∧ p = 6 ∧ 0 ≤ f ∧ f ≤ 255 ∧ rw_ = true ∧ ru = true ∧ (no : Int) ≤ 40 ∧ ((no : Int) % 4 == 0) = false ∧ R = false) ∨ (ra = true ∧ rb = true ∧ p = 6 ∧ 0 ≤ f ∧ f ≤ 255 ∧ rw_ = true ∧ ru = true ∧ (no : Int) ≤ 40 ∧ ((no : Int) % 4 == 0) = true ∧ R = !ns)
    ∨ (ra = true ∧ rb = true ∧ (p == 6) = false ∧ ((q : Int) == 0) = false ∧ R = false) ∨ (ra = true ∧ rb = true ∧ (p == 6) = false ∧ q = 0 ∧ ((k : Int) == 0) = false ∧ R = false) ∨ (ra = true ∧ rb = true ∧ (p == 6) = false ∧ q = 0 ∧ k = 0 ∧ (f == 0) = false ∧ R = false) ∨ (ra = true ∧ rb = true ∧ (p == 6) = false ∧ q = 0 ∧ k = 0 ∧ f = 0 ∧ (wn == 0) = false ∧ R = false) ∨ (ra = true ∧ rb = true ∧ (p == 6) = false ∧ q = 0 ∧ k = 0 ∧ f = 0 ∧ wn = 0 ∧ (u == 0) = false ∧ R = false)
    ∨ (ra = true ∧ rb = true ∧ (p == 6) = false ∧ q = 0 ∧ k = 0 ∧ f = 0 ∧ wn = 0 ∧ u = 0 ∧ ((no : Int) == 0) = false ∧ R = false) ∨ (ra = true ∧ rb = true ∧ (p == 6) = false ∧ q = 0 ∧ k = 0 ∧ f = 0 ∧ wn = 0 ∧ u = 0 ∧ no = 0 ∧ ns = false ∧ R = true) ∨ (ra = true ∧ rb = true ∧ (p == 6) = false ∧ q = 0 ∧ k = 0 ∧ f = 0 ∧ wn = 0 ∧ u = 0 ∧ no = 0 ∧ ns = true ∧ R = !v) := by
    clear KA KB KW KU c0 c1 c2 c3 c4 c5 c6 c7 c8 c9 c10 hi fin HB r1 r2
    have n4 : ((no : Int) % 4 == 0) = (no % 4 == 0) := by rw [Bool.eq_iff_iff]; simp; omega
    have n0 : ((no : Int) == 0) = (no == 0) := by rw [Bool.eq_iff_iff]; simp
    have nq : ((q : Int) == 0) = (q == 0) := by rw [Bool.eq_iff_iff]; simp
    have nk : ((k : Int) == 0) = (k == 0) := by rw [Bool.eq_iff_iff]; simp
    rw [n4, n0, nq, nk, hR]
    by_cases h6 : p = 6
    · subst h6
      by_cases f0 : 0 ≤ f <;> by_cases f1 : f ≤ 255 <;> by_cases h40 : no ≤ 40 <;> by_cases hm : no % 4 = 0 <;> cases ra <;> cases rb <;> cases rw_ <;> cases ru <;> simp [h40, hm, f0, f1] <;> omega
    · by_cases hq0 : q = 0 <;> by_cases hk0 : k = 0 <;> by_cases hf0 : f = 0 <;> by_cases hw0 : wn = 0 <;> by_cases hu0 : u = 0 <;> by_cases hn0 : no = 0 <;> cases ns <;> cases ra <;> cases rb <;> simp [h6, hq0, hk0, hn0, hf0, hw0, hu0]
  clear hR
  rcases key with ⟨rfl, rfl⟩ | ⟨rfl, rfl, rfl⟩ | ⟨rfl, rfl, rfl, q1, rfl⟩ | ⟨rfl, rfl, rfl, q1, q2, rfl⟩ | ⟨rfl, rfl, rfl, q1, q2, rfl, rfl⟩ | ⟨rfl, rfl, rfl, q1, q2, rfl, rfl, rfl⟩ | ⟨rfl, rfl, rfl, q1, q2, rfl, rfl, q3, rfl⟩ | ⟨rfl, rfl, rfl, q1, q2, rfl, rfl, q3, q4, rfl⟩ | ⟨rfl, rfl, rfl, q1, q2, rfl, rfl, q3, q4, rfl⟩
    | ⟨rfl, rfl, q0, q1, rfl⟩ | ⟨rfl, rfl, q0, rfl, q1, rfl⟩ | ⟨rfl, rfl, q0, rfl, rfl, q1, rfl⟩ | ⟨rfl, rfl, q0, rfl, rfl, rfl, q1, rfl⟩ | ⟨rfl, rfl, q0, rfl, rfl, rfl, rfl, q1, rfl⟩ | ⟨rfl, rfl, q0, rfl, rfl, rfl, rfl, rfl, q1, rfl⟩ | ⟨rfl, rfl, q0, rfl, rfl, rfl, rfl, rfl, rfl, rfl, rfl⟩ | ⟨rfl, rfl, q0, rfl, rfl, rfl, rfl, rfl, rfl, rfl, rfl⟩
  all_goals (
    go_enter Tryz.func41, Tryz.ntmps41
    go_wp2_with (first
      | (go_at_call 75; (with_reducible refine (KA.out _).mono ?_); rintro e w1 ⟨rfl, rfl⟩)
      | (go_at_call 75; (with_reducible refine (KB.out _).mono ?_); rintro e w1 ⟨rfl, rfl⟩)
      | (go_at_call 75; (with_reducible refine (KW.out _).mono ?_); rintro e w1 ⟨rfl, rfl⟩)
      | (go_at_call 75; (with_reducible refine (KU.out _).mono ?_); rintro e w1 ⟨rfl, rfl⟩)
      | fail)
    go_ret
    exact ⟨ret_b (by first | rfl | (simp; done)), HB.out⟩)
end Go.Proofs.YtihakjcccbionaaGreatDoor

end
section
/-
  The walk of the document's own Put, of a segment.
-/
namespace Go.Proofs.YtihakjcccbionaaGreatDoor
open Go.RowKit
attribute [local go_sem ↓] exec_span exec_put exec_build heap_alloc_new heap_old heap_alloc_drew
attribute [local go_sem] spanQ_ptr spanC_some heap_of_drew heap_of_drewN rs_arr rs_ad rs_ip rs_rip rs_seg rs_rseg putAt_ptr putOk_ptr oldOk_some World.setRow_alloc_new setRow_drew
set_option maxRecDepth 100000
set_option linter.unusedVariables false
set_option linter.unusedSimpArgs false

theorem info_refop5 : (Tryz.prog.info? 101).map (fun i => (i.zero, i.size, i.bytes)) = some (some (.agg #[.int .i64 0, .int .i64 0]), 2, 16) := by kernel_rfl
theorem rightR5_of {h : Ip} {s : Sg} : rightR5 h s = true ↔ (rightS s = true ∧ (s.ns && h.v) = false) := by
  unfold rightR5; cases rightS s <;> cases (s.ns && h.v) <;> simp
/-- the fields of a head. -/
def flS (s : Sg) : List (Nat × Nat) := if s.p = 6 then tcpF s.a.toNat s.b.toNat s.q s.k s.no s.f.toNat s.wn.toNat s.u.toNat else [(2, s.a.toNat), (2, s.b.toNat), (2, 8 + s.nd), (2, 0)]
theorem hdB_flS (s : Sg) : hdB s = fldB (flS s) := by unfold hdB flS; split <;> rfl
theorem flS_ok {s : Sg} (hr : rightS s = true) (hq : s.q < 4294967296) (hk : s.k < 4294967296) (hz : hdN s + s.nd ≤ 65535) : fldOk (flS s) := by
  obtain ⟨ha, hb, h6, h17⟩ := rightS_facts hr
  unfold flS
  by_cases e6 : s.p = 6
  · obtain ⟨hf, hw, hu, hno, -, -⟩ := h6 e6
    rw [if_pos e6]
    intro f hf'
    simp [tcpF] at hf'
    rcases hf' with rfl | rfl | rfl | rfl | rfl | rfl | rfl | rfl | rfl <;> simp <;> omega
  · rw [if_neg e6]
    unfold hdN at hz
    rw [if_neg e6] at hz
    intro f hf'
    simp at hf'
    rcases hf' with rfl | rfl | rfl | rfl <;> simp <;> omega
theorem row_ops {w : World} {base : Nat} {e : TypeId} {v : Value} {l : List (Int × Int)} (h : w.ownsRow base e 2 v l.length (opCells l)) : ∃ A c, v = .slice A l.length c ∧ Ops w w.heap.size A l := by
  rcases h.2 with ⟨rfl, h0⟩ | ⟨gg, cap, cur, rfl, hb, hg, hn, hm, hsz, ht⟩
  · obtain rfl : l = [] := List.eq_nil_of_length_eq_zero h0
    exact ⟨none, 0, rfl, fun hp => absurd hp (by simp)⟩
  · refine ⟨some ⟨gg, 0, none⟩, cap, rfl, fun _ => ⟨gg, 0, rfl, (Array.getElem?_eq_some_iff.1 hg).1, fun i hi => ?_⟩⟩
    obtain ⟨h1, h2⟩ := opCells_get l i hi
    have hc : ∀ i, i < l.length * 2 → w.cell? ⟨gg, i, none⟩ = (opCells l)[i]? := fun i hi => World.ownsRow.cellAt (g := gg) (cap := cap) h i hi
    rw [Nat.zero_add]
    exact ⟨(hc _ (by omega)).trans h1, (hc _ (by omega)).trans h2⟩
/-- the two rows that grow side by side. -/
structure TwoS (w0 w : World) (v o : Value) (fl : List (Nat × Nat)) : Prop where
  rv : w.ownsRow w0.heap.size 103 2 v (fldV fl).length (itemCells (fldV fl))
  ro : w.ownsRow w0.heap.size 101 2 o (fldO fl).length (opCells (fldO fl))
  d : v.ownBlock = none ∨ v.ownBlock ≠ o.ownBlock
  b : Below w0.heap.size w0 w
theorem TwoS.op {w0 w w' : World} {v o o' : Value} {fl : List (Nat × Nat)} {f : Nat × Nat} (h : TwoS w0 w v o fl) (hg : w.grownBy w' o.ownBlock) (ho : w'.ownsRow w0.heap.size 101 2 o' (fldO (fl ++ [f])).length (opCells (fldO (fl ++ [f])))) (ha : o'.ownBlock = o.ownBlock ∨ ∀ k, o'.ownBlock = some k → w.heap.size ≤ k) :
    w'.ownsRow w0.heap.size 103 2 v (fldV fl).length (itemCells (fldV fl)) ∧ (v.ownBlock = none ∨ v.ownBlock ≠ o'.ownBlock) ∧ Below w0.heap.size w0 w' := by
  refine ⟨World.ownsRow.kept h.rv hg h.d, ?_, h.b.grown hg h.b.size (fun k hk => (World.ownsRow.lt h.ro k hk).1)⟩
  rcases h.d with e | e
  · exact .inl e
  · by_cases en : v.ownBlock = none
    · exact .inl en
    · refine .inr ?_
      rcases ha with e1 | e1
      · rw [e1]; exact e
      · intro e2
        obtain ⟨k, hk⟩ := Option.ne_none_iff_exists'.1 en
        have h1 := (World.ownsRow.lt h.rv k hk).2
        have h2 := e1 k (by rw [← e2]; exact hk)
        omega

set_option maxHeartbeats 8000000 in
theorem refputT_any (w : World) (X Y : Array Value) (h : Ip) (s : Sg) (x : IpV X h) (y : SgV Y s) (hp : h.p = 6) (sp : s.p = 6) (hr : rightS s = true) (hv : (s.ns && h.v) = false) (O D : List UInt8) (hO : Byt w w.heap.size s.ao O) (hOl : O.length = s.no) (honil : s.ao = none → s.co = 0) (hD : Byt w w.heap.size s.ad D) (hDl : D.length = s.nd) (hnil : s.ad = none → s.cd = 0) (hz0 : hdN s + s.nd ≤ 65535) :
    Calls Tryz.prog 20 #[.agg X, .agg Y] w fun e w' => ∃ v, e = .returned (.tuple #[v, .int .i64 0]) ∧ OwnB w' w.heap.size v (segB h s O D) ∧ Below w.heap.size w w' := by
  obtain ⟨W, hW⟩ : ∃ W, (w.alloc (.cells X 62)).alloc (.cells Y 64) = W := ⟨_, rfl⟩
  obtain ⟨r1, r2, hz, hbW⟩ := two_packs w X _ _ _ W hW
  obtain ⟨ha0, hb0, hr6, hr17⟩ := rightS_facts hr
  obtain ⟨hf0, hw0, hu0, hno40, -, hns⟩ := hr6 sp
  have hz1 : 20 + s.no + s.nd ≤ 65535 := by unfold hdN at hz0; rw [if_pos sp] at hz0; exact hz0
  have hxs := x.size
  have hxr := x.x0
  have hys := y.size
  have hyr := y.x0
  have hok := flS_ok hr y.hq y.hk hz0
  have KR := hide (fun W1 => refright5_any W1 X Y h s x y)
  rw [show rightR5 h s = true from rightR5_of.2 ⟨hr, hv⟩] at KR
  have hkeep := hide (fun (W1 : World) (b : Below W.heap.size W W1) => (⟨(b.block w.heap.size (by omega)).trans r1, (b.block (w.heap.size + 1) (by omega)).trans r2⟩ : W1.heap[w.heap.size]? = some (.cells X 62 (0, 0)) ∧ W1.heap[w.heap.size + 1]? = some (.cells Y 64 (0, 0))))
  have HXC := hide (fun (W1 : World) (b : Below W.heap.size W W1) => ((x.cells (hkeep.out W1 b).1).c35 : W1.cell? ⟨w.heap.size, 35, none⟩ = some (.int .i64 h.p)))
  rw [hp] at HXC
  obtain ⟨an, ha⟩ : ∃ n : Nat, s.a = (n : Int) := ⟨s.a.toNat, by omega⟩
  obtain ⟨bn, hb⟩ : ∃ n : Nat, s.b = (n : Int) := ⟨s.b.toNat, by omega⟩
  obtain ⟨q, hq⟩ : ∃ n, n = s.q := ⟨_, rfl⟩
  obtain ⟨k, hk⟩ : ∃ n, n = s.k := ⟨_, rfl⟩
  obtain ⟨fn, hf⟩ : ∃ n : Nat, s.f = (n : Int) := ⟨s.f.toNat, by omega⟩
  obtain ⟨wn, hw⟩ : ∃ n : Nat, s.wn = (n : Int) := ⟨s.wn.toNat, by omega⟩
  obtain ⟨un, hu⟩ : ∃ n : Nat, s.u = (n : Int) := ⟨s.u.toNat, by omega⟩
  have HC : Hid (∀ W1 : World, Below W.heap.size W W1 → W1.cell? ⟨w.heap.size + 1, 0, none⟩ = some (.int .i64 6) ∧ W1.cell? ⟨w.heap.size + 1, 1, none⟩ = some (.int .i64 (an : Int)) ∧ W1.cell? ⟨w.heap.size + 1, 2, none⟩ = some (.int .i64 (bn : Int)) ∧ W1.cell? ⟨w.heap.size + 1, 3, none⟩ = some (.int .u32 (q : Int)) ∧ W1.cell? ⟨w.heap.size + 1, 4, none⟩ = some (.int .u32 (k : Int)) ∧ W1.cell? ⟨w.heap.size + 1, 5, none⟩ = some (.int .i64 (fn : Int)) ∧ W1.cell? ⟨w.heap.size + 1, 6, none⟩ = some (.int .i64 (wn : Int)) ∧ W1.cell? ⟨w.heap.size + 1, 7, none⟩ = some (.int .i64 (un : Int)) ∧ W1.cell? ⟨w.heap.size + 1, 8, none⟩ = some (.bool s.ns) ∧ W1.cell? ⟨w.heap.size + 1, 9, none⟩ = some (.slice s.ao O.length s.co) ∧ W1.cell? ⟨w.heap.size + 1, 10, none⟩ = some (.slice s.ad D.length s.cd)) := hide (fun W1 hb1 => by
    obtain ⟨c0, c1, c2, c3, c4, c5, c6, c7, c8, c9, c10⟩ := y.cells (hkeep.out W1 hb1).2
    rw [← sp, ← ha, ← hb, ← hf, ← hw, ← hu, hq, hk, hOl, hDl]
    exact ⟨c0, c1, c2, c3, c4, c5, c6, c7, c8, c9, c10⟩)
  have hfl : flS s = [(2, an), (2, bn), (4, q), (4, k), (1, (20 + s.no) / 4 * 16), (1, fn), (2, wn), (2, 0), (2, un)] := by
    unfold flS
    rw [if_pos sp, hf, hw, hu, hq, hk]; unfold tcpF
    rw [ha, hb]; simp
  have hAn : an ≤ 65535 ∧ bn ≤ 65535 := by omega
  have hq9 : q < 4294967296 ∧ k < 4294967296 := by rw [hq, hk]; exact ⟨y.hq, y.hk⟩
  have hwa : IntKind.u64.wrap (an : Int) = (an : Int) := IntWalk.u64_in _ (by omega)
  have hwb : IntKind.u64.wrap (bn : Int) = (bn : Int) := IntWalk.u64_in _ (by omega)
  have HB := hide hbW
  have HZ := hide hz
  have HW := hide hW
  have HX := hide x
  have HD := hide hD
  have HO := hide hO
  have HH := hide (hdB_flS s)
  have hlH : Hid ((hdB s).length = 20) := hide (by rw [len_hdB, if_pos sp])
  have hw20 : IntKind.i64.wrap (20 + (O.length : Int)) = 20 + (O.length : Int) := IntWalk.i64_in _ (by omega)
  have hws : IntKind.i64.wrap (65535 - (20 + (O.length : Int))) = 65535 - (20 + (O.length : Int)) := IntWalk.i64_in _ (by omega)
  have hgt : ¬ 65535 - (20 + (O.length : Int)) < (D.length : Int) := by omega
  have hwn : IntKind.i64.wrap (20 + (O.length : Int) + (D.length : Int)) = 20 + (O.length : Int) + (D.length : Int) := IntWalk.i64_in _ (by omega)
  have hwn2 : IntKind.u64.wrap (20 + (O.length : Int) + (D.length : Int)) = 20 + (O.length : Int) + (D.length : Int) := IntWalk.u64_in _ (by omega)
  have hwf : IntKind.u64.wrap (fn : Int) = (fn : Int) := IntWalk.u64_in _ (by omega)
  have hww : IntKind.u64.wrap (wn : Int) = (wn : Int) := IntWalk.u64_in _ (by omega)
  have hwu : IntKind.u64.wrap (un : Int) = (un : Int) := IntWalk.u64_in _ (by omega)
  have hwq : IntKind.u64.wrap (q : Int) = (q : Int) := IntWalk.u64_in _ (by omega)
  have hwk : IntKind.u64.wrap (k : Int) = (k : Int) := IntWalk.u64_in _ (by omega)
  obtain ⟨wd4, hwd4⟩ : ∃ v, v = (20 + O.length) / 4 := ⟨_, rfl⟩
  have hq4 : (20 + (O.length : Int)) / 4 = (wd4 : Int) := by omega
  have hq4t : (20 + (O.length : Int)).tdiv 4 = (wd4 : Int) := by rw [Int.tdiv_eq_ediv_of_nonneg (by omega)]; exact hq4
  have hwq4 : IntKind.i64.wrap (wd4 : Int) = (wd4 : Int) := IntWalk.i64_in _ (by omega)
  obtain ⟨M, hMM⟩ : ∃ v, v = wd4 * 16 := ⟨_, rfl⟩
  have hM16 : IntKind.i64.wrap ((wd4 : Int) * 16) = (M : Int) := by rw [show (wd4 : Int) * 16 = (M : Int) by omega]; exact IntWalk.i64_in _ (by omega)
  have hwM : IntKind.u64.wrap (M : Int) = (M : Int) := IntWalk.u64_in _ (by omega)
  rw [show (20 + s.no) / 4 * 16 = M by rw [hMM, hwd4, hOl]] at hfl
  have HSUM : Hid (20 + O.length + D.length ≤ 65535) := hide (by omega)
  have hbigA : O.length ≤ 40 := by omega
  clear hMM hwd4
  have HFLE := hide hfl
  obtain ⟨fl, hflv⟩ : ∃ fl, fl = flS s := ⟨_, rfl⟩
  rw [← hflv] at hok HH HFLE
  have HOK := hide hok
  have hn9 : fl.length = 9 := by rw [hflv, hfl]; rfl
  have HSZ : Hid (∀ w : World, IntsAt (w.alloc (.cells #[.int .i64 2, .int .i64 2, .int .i64 4, .int .i64 4, .int .i64 1, .int .i64 1, .int .i64 2, .int .i64 2, .int .i64 2] 3)) (w.heap.size + 1) (some ⟨w.heap.size, 0, none⟩) .i64 (fl.map fun f => (f.1 : Int))) := hide (fun w => IntsAt.lit w .i64 _ _ _ (by rw [hflv, hfl]; rfl))
  have HNU : Hid (∀ w : World, IntsAt (w.alloc (.cells #[.int .u64 (an : Int), .int .u64 (bn : Int), .int .u64 (q : Int), .int .u64 (k : Int), .int .u64 (M : Int), .int .u64 (fn : Int), .int .u64 (wn : Int), .int .u64 0, .int .u64 (un : Int)] 98)) (w.heap.size + 1) (some ⟨w.heap.size, 0, none⟩) .u64 (fl.map fun f => (f.2 : Int))) := hide (fun w => IntsAt.lit w .u64 _ _ _ (by rw [hflv, hfl]; rfl))
  have HN9 := hide hn9
  clear hflv hfl hok hn9
  clear hz hbW hW hD x y hO hr6 hr17 ha0 hb0 hr hv ha hb hf hw hu hq hk hDl hOl
  go_enter Tryz.func20, Tryz.ntmps20
  go_upto_region 1 with (fail)
  change Code.wp _ _ _ _ ((w.alloc (.cells X 62)).alloc (.cells Y 64))
  rw [HW.out]
  have c35 := HXC.out W (Below.refl _ _)
  obtain ⟨d0, -⟩ := HC.out W (Below.refl _ _)
  go_wp2_with fail
  refine (KR.out W).mono ?_
  rintro e w1 ⟨rfl, b1⟩
  have B1 : Hid (Below W.heap.size W w1) := hide b1
  obtain ⟨e0, e1, e2, e3, e4, e5, e6, e7, e8, e9, e10⟩ := HC.out w1 b1
  clear b1 c35 d0 r1 r2
  dsimp only
  obtain ⟨wa, hwa'⟩ : ∃ wa, w1.alloc (.cells #[.int .i64 2, .int .i64 2, .int .i64 2, .int .i64 2] 3) = wa := ⟨_, rfl⟩
  have Ba : Below W.heap.size W wa := by rw [← hwa']; exact B1.out.alloc B1.out.size _
  obtain ⟨a0, a1, a2, -, -, -, -, -, -, a9, a10⟩ := HC.out wa Ba
  obtain ⟨wb, hwb'⟩ : ∃ wb, wa.alloc (.cells #[.int .u64 (an : Int), .int .u64 (bn : Int), .int .u64 (20 + (O.length : Int) + (D.length : Int)), .int .u64 0] 98) = wb := ⟨_, rfl⟩
  have Bb : Below W.heap.size W wb := by rw [← hwb']; exact Ba.alloc Ba.size _
  obtain ⟨b0, -⟩ := HC.out wb Bb
  obtain ⟨wc, hwc'⟩ : ∃ wc, wb.alloc (.cells #[.int .i64 2, .int .i64 2, .int .i64 4, .int .i64 4, .int .i64 1, .int .i64 1, .int .i64 2, .int .i64 2, .int .i64 2] 3) = wc := ⟨_, rfl⟩
  have Bc : Below W.heap.size W wc := by rw [← hwc']; exact Bb.alloc Bb.size _
  obtain ⟨f0, f1, f2, f3, f4, f5, f6, f7, f8, f9, f10⟩ := HC.out wc Bc
  have hzc : wc.heap.size = wb.heap.size + 1 := by rw [← hwc']; simp
  have szc : IntsAt wc (wb.heap.size + 1) (some ⟨wb.heap.size, 0, none⟩) .i64 (fl.map fun f => (f.1 : Int)) := by rw [← hwc']; exact HSZ.out wb
  obtain ⟨wl, hwl⟩ : ∃ wl, wc.alloc (.cells #[.int .u64 (an : Int), .int .u64 (bn : Int), .int .u64 (q : Int), .int .u64 (k : Int), .int .u64 (M : Int), .int .u64 (fn : Int), .int .u64 (wn : Int), .int .u64 0, .int .u64 (un : Int)] 98) = wl := ⟨_, rfl⟩
  have Bl : Below W.heap.size W wl := by rw [← hwl]; exact Bc.alloc Bc.size _
  have hzl : wl.heap.size = wc.heap.size + 1 := by rw [← hwl]; simp
  have nul : IntsAt wl (wc.heap.size + 1) (some ⟨wc.heap.size, 0, none⟩) .u64 (fl.map fun f => (f.2 : Int)) := by rw [← hwl]; exact HNU.out wc
  have szl : IntsAt wl (wb.heap.size + 1) (some ⟨wb.heap.size, 0, none⟩) .i64 (fl.map fun f => (f.1 : Int)) := by rw [← hwl]; exact szc.below ((Below.refl _ _).alloc (by omega) _)
  have HBl := hide Bl
  have HSL := hide szl
  have HNL := hide nul
  obtain ⟨gs, hgs⟩ : ∃ g, g = wb.heap.size := ⟨_, rfl⟩
  obtain ⟨gn, hgn⟩ : ∃ g, g = wc.heap.size := ⟨_, rfl⟩
  have HGS : Hid (gs < wl.heap.size) := hide (by omega)
  have HGN : Hid (gn < wl.heap.size) := hide (by omega)
  rw [← hgs] at HSL
  rw [← hgn] at HNL
  have HEG := hide (And.intro hgs hgn)
  clear hgs hgn Ba Bb Bc Bl szc szl nul hzc hzl
  go_wp2
  rw [← HEG.out.1, ← HEG.out.2]
  clear hwa' hwb' hwc' hwl e0 e1 e2 e3 e4 e5 e6 e7 e8 e9 e10 a0 a1 a2 a9 a10 b0 f0 f1 f2 f3 f4 f5 f6 f7 f8 f9 f10
  go_loopw [7, 8, 11] (fun v o i wr => ∃ j : Nat, j ≤ 9 ∧ i = .int .i64 (j : Int) ∧ Hid (TwoS wl wr v o (fl.take j)))
    (fun _ _ i _ => 9 - (intOf i).toNat)
  case atStart => exact ⟨0, by omega, rfl, hide ⟨World.ownsRow_nil _ _ _ _, World.ownsRow_nil _ _ _ _, .inl rfl, Below.refl _ _⟩⟩
  case round =>
    obtain ⟨j, hj, rfl, ht⟩ := hrel
    by_cases hlt : j < 9
    · have hjf : j < fl.length := by rw [HN9.out]; exact hlt
      obtain ⟨sz, hsz⟩ : ∃ m, m = (fl[j]).1 := ⟨_, rfl⟩
      obtain ⟨N, hN⟩ : ∃ m, m = (fl[j]).2 := ⟨_, rfl⟩
      have hs0 : wr.cell? ⟨gs, j, none⟩ = some (.int .i64 (sz : Int)) := by
        obtain ⟨b, off, e, hb, hc⟩ := HSL.out (by simp; omega)
        cases e
        have := hc j (by simpa using hjf)
        rw [Nat.zero_add] at this
        refine (ht.out.b.cell (p := ⟨gs, j, none⟩) HGS.out).trans (this.trans ?_)
        simp [hsz]
      have hn0 : Hid (∀ W1, Below wl.heap.size wl W1 → W1.cell? ⟨gn, j, none⟩ = some (.int .u64 (N : Int))) := hide (fun W1 b1 => by
        obtain ⟨b, off, e, hb, hc⟩ := HNL.out (by simp; omega)
        cases e
        have := hc j (by simpa using hjf)
        rw [Nat.zero_add] at this
        refine (b1.cell (p := ⟨gn, j, none⟩) HGN.out).trans (this.trans ?_)
        simp [hN])
      have hfe : fl.take (j + 1) = fl.take j ++ [(sz, N)] := by rw [fld_take hjf, hsz, hN]
      have HFE := hide hfe
      have hlo : Hid ((fldO (fl.take j)).length ≤ 16 ∧ (fldV (fl.take j)).length ≤ 16) := hide (by simp [fldO, fldV]; omega)
      obtain ⟨j0, hj0, hy0, hy1, hy2⟩ := info_parts info_refop5
      obtain ⟨i0, hi0, hz0', hz1', hz2⟩ := info_parts info_refval
      have hlit : (wr.alloc (.cells #[.int .i64 0, .int .i64 (sz : Int)] 101)).heap[wr.heap.size]? = some (.cells #[.int .i64 0, .int .i64 (sz : Int)] 101 (0, 0)) := heap_alloc_new wr _
      have HLIT := hide hlit
      have hj9 : (j : Int) < 9 := by omega
      clear hsz hN hfe hlit hjf
      go_wp2_with (at_builtin; refine wpList_app_two rfl (.tmp 97) (.tmp 103) wl.heap.size 96 101 j0 _ 16 rfl Tryz.underlying96 hj0 hy0 hy1 hy2 rfl u8 (fldO (fl.take j)).length (opCells (fldO (fl.take j))) (some ⟨wr.heap.size, 0, none⟩) 1 1 [.int .i64 0, .int .i64 (sz : Int)] rfl rfl (by exact World.ownsRow.alloc ht.out.ro _) rfl (fun _ => ⟨wr.heap.size, 0, rfl, fun n u hu => by rw [cell_of_row _ _ (0 + n) _ _ (0, 0) HLIT.out, Nat.zero_add]; simpa using hu⟩) (fun e => by cases e) (fun u hu => by simp at hu; rcases hu with rfl | rfl <;> rfl) (by have := hlo.out; unfold maxLen; omega) (by have := hlo.out; omega) (by have := ht.out.b.size; simp; omega) ?_)
      intro v6 w6 hown6 hgr6 hat6
      have hg6 : wr.grownBy w6 u8.ownBlock := grown_trans (World.grownBy_alloc wr _ _) hgr6
      have T6 := hide (ht.out.op (f := (sz, N)) hg6 (by rw [fldO_snoc, opCells_snoc, List.length_append]; exact hown6) (hat6.imp id (fun e k hk => by rw [e] at hk; cases hk; simp)))
      have O6 : Hid (w6.ownsRow wl.heap.size 101 2 v6 (fldO (fl.take (j + 1))).length (opCells (fldO (fl.take (j + 1))))) := hide (by rw [HFE.out, fldO_snoc, opCells_snoc, List.length_append]; exact hown6)
      have hn6 := hn0.out w6 T6.out.2.2
      clear hown6 hgr6 hat6 hg6 hs0 HLIT ht
      have hlit : (w6.alloc (.cells #[.int .u64 (N : Int), .slice none 0 0] 103)).heap[w6.heap.size]? = some (.cells #[.int .u64 (N : Int), .slice none 0 0] 103 (0, 0)) := heap_alloc_new w6 _
      have HLIT := hide hlit
      clear hlit
      go_wp2_with (at_builtin; refine wpList_app_two rfl (.tmp 105) (.tmp 111) wl.heap.size 95 103 i0 _ 32 rfl Tryz.underlying95 hi0 hz0' hz1' hz2 rfl u7 (fldV (fl.take j)).length (itemCells (fldV (fl.take j))) (some ⟨w6.heap.size, 0, none⟩) 1 1 [.int .u64 (N : Int), .slice none 0 0] rfl rfl (by exact World.ownsRow.alloc T6.out.1 _) rfl (fun _ => ⟨w6.heap.size, 0, rfl, fun n u hu => by rw [cell_of_row _ _ (0 + n) _ _ (0, 0) HLIT.out, Nat.zero_add]; simpa using hu⟩) (fun e => by cases e) (fun u hu => by simp at hu; rcases hu with rfl | rfl <;> rfl) (by have := hlo.out; unfold maxLen; omega) (by have := hlo.out; omega) (by have := T6.out.2.2.size; simp; omega) ?_)
      intro v7 w7 hown7 hgr7 hat7
      have hg7 : w6.grownBy w7 u7.ownBlock := grown_trans (World.grownBy_alloc w6 _ _) hgr7
      have T7 : Hid (TwoS wl w7 v7 v6 (fl.take (j + 1))) := hide ⟨by rw [HFE.out, fldV_snoc, itemCells_snoc, List.length_append]; exact hown7, World.ownsRow.kept O6.out hg7 (by
          rcases T6.out.2.1 with e | e
          · by_cases en : v6.ownBlock = none
            · exact .inl en
            · exact .inr (by rw [e]; exact en)
          · exact .inr (fun e2 => e e2.symm)), by
          rcases hat7 with e | e
          · rw [e]; exact T6.out.2.1
          · refine .inr ?_
            rw [e]
            intro e2
            have := (World.ownsRow.lt O6.out _ e2.symm).2
            first | omega | (simp at this; omega), T6.out.2.2.grown hg7 T6.out.2.2.size (fun k hk => (World.ownsRow.lt T6.out.1 k hk).1)⟩
      clear hown7 hgr7 hat7 hg7 HLIT hn6 T6 O6
      go_wp2
      go_roundw
      case rel => exact ⟨j + 1, by omega, by go_num, T7⟩
      case measure => simp [intOf]; omega
    · have hjl : j = fl.length := by rw [HN9.out]; omega
      have hj9 : ¬ (j : Int) < 9 := by omega
      rw [hjl, List.take_length] at ht
      obtain ⟨A5, c5, rfl, hrv⟩ := row_reads ht.out.rv
      obtain ⟨A6, c6, rfl, hro⟩ := row_ops ht.out.ro
      have hle : (fldV fl).length = fl.length := by simp [fldV]
      have hlo : (fldO fl).length = fl.length := by simp [fldO]
      have C := reflayN_any wr A5 A6 c5 c6 fl hrv hro HOK.out (by rw [HN9.out]; decide)
      rw [hle, hlo]
      have HC5 := hide C
      have BR : Hid (Below W.heap.size W wr) := hide (HBl.out.trans (ht.out.b.mono HBl.out.size))
      clear hrv hro C hle hlo hlt ht hjl
      go_wp2_with fail
      refine HC5.out.mono ?_
      rintro e w9 ⟨A9, c9, rfl, o9, b9⟩
      have B9 : Hid (Below W.heap.size W w9) := hide (BR.out.trans (b9.mono BR.out.size))
      rw [← HH.out] at o9
      have O9 : Hid (OwnB w9 W.heap.size (.slice A9 (hdB s).length c9) (hdB s)) := hide (own_low o9 BR.out.size)
      rw [← HH.out]
      obtain ⟨-, -, -, -, -, -, -, -, -, g9, -⟩ := HC.out w9 B9.out
      have HOb : Hid (Byt w9 w.heap.size s.ao O) := hide (HO.out.below (HB.out.trans (B9.out.mono HB.out.size)))
      clear o9 b9 HC5
      dsimp only
      go_wp2_with (at_builtin; refine wpList_app_bytes rfl (.tmp 119) (.tmp 121) rfl W.heap.size (.slice A9 (hdB s).length c9) _ O w.heap.size s.co s.ao rfl rfl (by exact O9.out) (by exact HOb.out) honil (by have := hlH.out; have := HSUM.out; omega) B9.out.size ?_)
      intro v10 w10 o10 g10 a10
      have B10 : Hid (Below W.heap.size W w10) := hide (B9.out.grown g10 B9.out.size (fun k hk => (World.ownsRow.lt O9.out k hk).1))
      have O10 : Hid (OwnB w10 W.heap.size v10 (hdB s ++ O)) := hide o10
      obtain ⟨-, -, -, -, -, -, -, -, -, -, h10⟩ := HC.out w10 B10.out
      have HDb : Hid (Byt w10 w.heap.size s.ad D) := hide (HD.out.below (HB.out.trans (B10.out.mono HB.out.size)))
      clear o10 g10 a10 g9
      go_wp2_with (at_builtin; refine wpList_app_bytes rfl (.tmp 123) (.tmp 125) rfl W.heap.size v10 _ D w.heap.size s.cd s.ad rfl rfl (by exact O10.out) (by exact HDb.out) hnil (by have := hlH.out; have := HSUM.out; rw [List.length_append]; omega) B10.out.size ?_)
      intro v11 w11 o11 g11 a11
      have B11 : Hid (Below W.heap.size W w11) := hide (B10.out.grown g11 B10.out.size (fun k hk => (World.ownsRow.lt O10.out k hk).1))
      obtain ⟨L, hL⟩ : ∃ L, L = seg0 s O D := ⟨_, rfl⟩
      have hown : OwnB w11 W.heap.size v11 L := by
        rw [hL]; unfold seg0; first | exact o11 | (rw [List.append_assoc]; exact o11)
      have hLn : L.length = 20 + O.length + D.length := by
        rw [hL]; unfold seg0; rw [List.length_append, List.length_append, hlH.out]
      have HLL := hide hL
      have h8 := (HC.out w11 B11.out).2.2.2.2.2.2.2.2.1
      have r11 := (hkeep.out w11 B11.out).1
      clear o11 g11 a11 h10 hL
      obtain ⟨g, cap, hv11, hlc, hg1, hgl⟩ := hown.pos (by omega)
      subst hv11
      have hby := OwnB.byt hown hgl
      have hL65 : L.length ≤ 65535 := by have := HSUM.out; omega
      by_cases hns : s.ns = true
      · have hfin : L = segB h s O D := by rw [HLL.out]; unfold segB; rw [if_pos hns]
        rw [hns] at h8
        have HFIN : Hid (OwnB w11 W.heap.size (.slice (some ⟨g, 0, none⟩) L.length cap) (segB h s O D)) := hide (by rw [← hfin]; exact hown)
        clear hown hfin hby hlc hg1 hgl
        go_wp2
        go_ret2
        exact ⟨_, rfl, own_low HFIN.out HB.out.size, HB.out.trans (B11.out.mono HB.out.size)⟩
      · have hnf : s.ns = false := by simpa using hns
        rw [hnf] at h8
        have hsg : Hid (segB h s O D = ((seg0 s O D).set 16 (b8 (((sumV h (seg0 s O D) 16 : Nat) : Int) / 256))).set (16 + 1) (b8 ((sumV h (seg0 s O D) 16 : Nat) : Int))) := hide (by unfold segB; rw [hnf, hp]; rfl)
        obtain ⟨N, hN⟩ : ∃ N, N = sumV h L 16 := ⟨_, rfl⟩
        have hN65 : N ≤ 65535 := by rw [hN]; exact sumV_le _ _ _
        have KU := refown5_any w11 X h HX.out (by rw [hp]; decide) (some ⟨g, 0, none⟩) cap L (hby.more (Nat.le_refl _)) hlc (by omega) (fun e => by cases e) (by rw [hp]; show 16 + 2 ≤ L.length; omega)
        rw [hp, show atS 6 = 16 from rfl, ← hN] at KU
        have HKU := hide KU
        have HOWN := hide hown
        have HLN := hide hLn
        have HL65 := hide hL65
        have HBG := hide hg1
        have HNN := hide hN
        have KP := hide (fun (W1 : World) => placeR_any W1 6)
        clear hown hby hlc hN hg1 hgl hLn hL65 KU
        go_wp2_with fail
        refine HKU.out.mono ?_
        rintro e w12 ⟨rfl, b12⟩
        have B12 : Hid (Below W.heap.size W w12) := hide (B11.out.trans (b12.mono B11.out.size))
        have O12 : OwnB w12 W.heap.size (.slice (some ⟨g, 0, none⟩) L.length cap) L := World.ownsRow.kept HOWN.out (below_row b12 none) (Classical.em _)
        have k12 := HXC.out w12 B12.out
        obtain ⟨x6, hx6⟩ : ∃ u, u = b8 ((N : Int) / 256) := ⟨_, rfl⟩
        obtain ⟨x7, hx7⟩ : ∃ u, u = b8 (N : Int) := ⟨_, rfl⟩
        have e6 := b8_eq ((N : Int) / 256)
        have e7 := b8_eq (N : Int)
        rw [← hx6] at e6
        rw [← hx7] at e7
        have HX6 := hide hx6
        have HX7 := hide hx7
        have f6 := O12.frozenAt 16
        have hc6 : ∃ u, w12.cell? ⟨g, 16, none⟩ = some u := ⟨_, (O12.cellAt 16 (by have := HLN.out; omega)).trans (List.getElem?_eq_getElem (by simp; have := HLN.out; omega))⟩
        obtain ⟨u6, c6'⟩ := hc6
        have ho2 := putByte O12 16 (by have := HLN.out; omega) x6
        have g2 := (World.ownsRow.stored O12 16 (.int .u8 (x6.toNat : Int))).2
        obtain ⟨w13, hw13⟩ : ∃ w', w12.setCell ⟨g, 16, none⟩ (.int .u8 (x6.toNat : Int)) = w' := ⟨_, rfl⟩
        have ho2' : OwnB w13 W.heap.size (.slice (some ⟨g, 0, none⟩) (L.set 16 x6).length cap) (L.set 16 x6) := by rw [← hw13, List.length_set]; exact ho2
        rw [hw13] at g2
        have B13 : Below W.heap.size W w13 := B12.out.grown g2 B12.out.size (fun k hk => by cases hk; exact HBG.out)
        have k13 := HXC.out w13 B13
        have f7 := ho2'.frozenAt (16 + 1)
        have hc7 : ∃ u, w13.cell? ⟨g, 16 + 1, none⟩ = some u := ⟨_, (ho2'.cellAt (16 + 1) (by simp; have := HLN.out; omega)).trans (List.getElem?_eq_getElem (by simp; have := HLN.out; omega))⟩
        obtain ⟨u7', c7'⟩ := hc7
        have ho3 := putByte ho2' (16 + 1) (by simp; have := HLN.out; omega) x7
        have g3 := (World.ownsRow.stored ho2' (16 + 1) (.int .u8 (x7.toNat : Int))).2
        obtain ⟨w14, hw14⟩ : ∃ w', w13.setCell ⟨g, 16 + 1, none⟩ (.int .u8 (x7.toNat : Int)) = w' := ⟨_, rfl⟩
        have ho3' : OwnB w14 W.heap.size (.slice (some ⟨g, 0, none⟩) L.length cap) ((L.set 16 x6).set (16 + 1) x7) := by rw [← hw14]; simp only [List.length_set] at ho3; exact ho3
        rw [hw14] at g3
        have B14 : Below W.heap.size W w14 := B13.grown g3 B13.size (fun k hk => by cases hk; exact HBG.out)
        have hl6 : (16 : Int) < (L.length : Int) := by have := HLN.out; omega
        have hl7 : (16 : Int) + 1 < (L.length : Int) := by have := HLN.out; omega
        have hfin : (L.set 16 x6).set (16 + 1) x7 = segB h s O D := by
          rw [hsg.out, HX6.out, HX7.out, HNN.out, HLL.out]
        have HFIN : Hid (OwnB w14 W.heap.size (.slice (some ⟨g, 0, none⟩) L.length cap) (segB h s O D)) := hide (by rw [← hfin]; exact ho3')
        have HC14 := hide B14
        have HK13 := hide k13
        clear hfin ho3' ho3 ho2' ho2 g2 g3 B13 B14 O12 hx6 hx7 b12 HKU k13 r11 h8
        dsimp only
        go_wp2_with fail
        refine (KP.out _).mono ?_
        rintro e w1' ⟨rfl, rfl⟩
        have k13 := HK13.out
        dsimp only
        go_wp2_with fail
        refine (KP.out _).mono ?_
        rintro e w1' ⟨rfl, rfl⟩
        dsimp only
        go_wp2
        go_ret2
        exact ⟨_, rfl, own_low HFIN.out HB.out.size, HB.out.trans (HC14.out.mono HB.out.size)⟩

set_option maxHeartbeats 8000000 in
theorem refputU_any (w : World) (X Y : Array Value) (h : Ip) (s : Sg) (x : IpV X h) (y : SgV Y s) (hp : h.p = 17) (sp : s.p = 17) (hr : rightS s = true) (hv : (s.ns && h.v) = false) (O D : List UInt8) (hO : Byt w w.heap.size s.ao O) (hOl : O.length = s.no) (honil : s.ao = none → s.co = 0) (hD : Byt w w.heap.size s.ad D) (hDl : D.length = s.nd) (hnil : s.ad = none → s.cd = 0) (hz0 : hdN s + s.nd ≤ 65535) :
    Calls Tryz.prog 20 #[.agg X, .agg Y] w fun e w' => ∃ v, e = .returned (.tuple #[v, .int .i64 0]) ∧ OwnB w' w.heap.size v (segB h s O D) ∧ Below w.heap.size w w' := by
  obtain ⟨W, hW⟩ : ∃ W, (w.alloc (.cells X 62)).alloc (.cells Y 64) = W := ⟨_, rfl⟩
  obtain ⟨r1, r2, hz, hbW⟩ := two_packs w X _ _ _ W hW
  obtain ⟨ha0, hb0, hr6, hr17⟩ := rightS_facts hr
  obtain ⟨hq00, hk00, hf00, hw00, hu00, hno0⟩ := hr17 (by omega)
  have hz1 : 8 + s.nd ≤ 65535 := by unfold hdN at hz0; rw [if_neg (by omega)] at hz0; exact hz0
  have hxs := x.size
  have hxr := x.x0
  have hys := y.size
  have hyr := y.x0
  have hok := flS_ok hr y.hq y.hk hz0
  have KR := hide (fun W1 => refright5_any W1 X Y h s x y)
  rw [show rightR5 h s = true from rightR5_of.2 ⟨hr, hv⟩] at KR
  have hkeep := hide (fun (W1 : World) (b : Below W.heap.size W W1) => (⟨(b.block w.heap.size (by omega)).trans r1, (b.block (w.heap.size + 1) (by omega)).trans r2⟩ : W1.heap[w.heap.size]? = some (.cells X 62 (0, 0)) ∧ W1.heap[w.heap.size + 1]? = some (.cells Y 64 (0, 0))))
  have HXC := hide (fun (W1 : World) (b : Below W.heap.size W W1) => ((x.cells (hkeep.out W1 b).1).c35 : W1.cell? ⟨w.heap.size, 35, none⟩ = some (.int .i64 h.p)))
  rw [hp] at HXC
  obtain ⟨an, ha⟩ : ∃ n : Nat, s.a = (n : Int) := ⟨s.a.toNat, by omega⟩
  obtain ⟨bn, hb⟩ : ∃ n : Nat, s.b = (n : Int) := ⟨s.b.toNat, by omega⟩
  obtain ⟨q, hq⟩ : ∃ n, n = s.q := ⟨_, rfl⟩
  obtain ⟨k, hk⟩ : ∃ n, n = s.k := ⟨_, rfl⟩
  obtain ⟨fn, hf⟩ : ∃ n : Nat, s.f = (n : Int) := ⟨s.f.toNat, by omega⟩
  obtain ⟨wn, hw⟩ : ∃ n : Nat, s.wn = (n : Int) := ⟨s.wn.toNat, by omega⟩
  obtain ⟨un, hu⟩ : ∃ n : Nat, s.u = (n : Int) := ⟨s.u.toNat, by omega⟩
  have HC : Hid (∀ W1 : World, Below W.heap.size W W1 → W1.cell? ⟨w.heap.size + 1, 0, none⟩ = some (.int .i64 17) ∧ W1.cell? ⟨w.heap.size + 1, 1, none⟩ = some (.int .i64 (an : Int)) ∧ W1.cell? ⟨w.heap.size + 1, 2, none⟩ = some (.int .i64 (bn : Int)) ∧ W1.cell? ⟨w.heap.size + 1, 3, none⟩ = some (.int .u32 (q : Int)) ∧ W1.cell? ⟨w.heap.size + 1, 4, none⟩ = some (.int .u32 (k : Int)) ∧ W1.cell? ⟨w.heap.size + 1, 5, none⟩ = some (.int .i64 (fn : Int)) ∧ W1.cell? ⟨w.heap.size + 1, 6, none⟩ = some (.int .i64 (wn : Int)) ∧ W1.cell? ⟨w.heap.size + 1, 7, none⟩ = some (.int .i64 (un : Int)) ∧ W1.cell? ⟨w.heap.size + 1, 8, none⟩ = some (.bool s.ns) ∧ W1.cell? ⟨w.heap.size + 1, 9, none⟩ = some (.slice s.ao O.length s.co) ∧ W1.cell? ⟨w.heap.size + 1, 10, none⟩ = some (.slice s.ad D.length s.cd)) := hide (fun W1 hb1 => by
    obtain ⟨c0, c1, c2, c3, c4, c5, c6, c7, c8, c9, c10⟩ := y.cells (hkeep.out W1 hb1).2
    rw [← sp, ← ha, ← hb, ← hf, ← hw, ← hu, hq, hk, hOl, hDl]
    exact ⟨c0, c1, c2, c3, c4, c5, c6, c7, c8, c9, c10⟩)
  have hfl : flS s = [(2, an), (2, bn), (2, 8 + s.nd), (2, 0)] := by
    unfold flS
    rw [if_neg (by omega)]
    rw [ha, hb]; simp
  have hAn : an ≤ 65535 ∧ bn ≤ 65535 := by omega
  have hq9 : q < 4294967296 ∧ k < 4294967296 := by rw [hq, hk]; exact ⟨y.hq, y.hk⟩
  have hwa : IntKind.u64.wrap (an : Int) = (an : Int) := IntWalk.u64_in _ (by omega)
  have hwb : IntKind.u64.wrap (bn : Int) = (bn : Int) := IntWalk.u64_in _ (by omega)
  have HB := hide hbW
  have HZ := hide hz
  have HW := hide hW
  have HX := hide x
  have HD := hide hD
  have HO := hide hO
  have HH := hide (hdB_flS s)
  have hlH : Hid ((hdB s).length = 8) := hide (by rw [len_hdB, if_neg (by omega)])
  have hw0i : (8 : Int) + (D.length : Int) = ((8 + D.length : Nat) : Int) := by omega
  have hws : IntKind.i64.wrap (65535 - 8) = 65527 := by rfl
  have hgt : ¬ (65527 : Int) < (D.length : Int) := by omega
  have hwn : IntKind.i64.wrap (8 + (D.length : Int)) = 8 + (D.length : Int) := IntWalk.i64_in _ (by omega)
  have hwn2 : IntKind.u64.wrap (8 + (D.length : Int)) = 8 + (D.length : Int) := IntWalk.u64_in _ (by omega)
  have HSUM : Hid (8 + O.length + D.length ≤ 65535) := hide (by omega)
  rw [← hDl] at hfl
  have HFLE := hide hfl
  obtain ⟨fl, hflv⟩ : ∃ fl, fl = flS s := ⟨_, rfl⟩
  rw [← hflv] at hok HH HFLE
  have HOK := hide hok
  have hn9 : fl.length = 4 := by rw [hflv, hfl]; rfl
  have HSZ : Hid (∀ w : World, IntsAt (w.alloc (.cells #[.int .i64 2, .int .i64 2, .int .i64 2, .int .i64 2] 3)) (w.heap.size + 1) (some ⟨w.heap.size, 0, none⟩) .i64 (fl.map fun f => (f.1 : Int))) := hide (fun w => IntsAt.lit w .i64 _ _ _ (by rw [hflv, hfl]; rfl))
  have HNU : Hid (∀ w : World, IntsAt (w.alloc (.cells #[.int .u64 (an : Int), .int .u64 (bn : Int), .int .u64 (8 + (D.length : Int)), .int .u64 0] 98)) (w.heap.size + 1) (some ⟨w.heap.size, 0, none⟩) .u64 (fl.map fun f => (f.2 : Int))) := hide (fun w => IntsAt.lit w .u64 _ _ _ (by rw [hflv, hfl]; simp))
  have HN9 := hide hn9
  clear hflv hfl hok hn9 hw0i
  clear hz hbW hW hD x y hO hr6 hr17 ha0 hb0 hr hv ha hb hf hw hu hq hk hDl hOl
  go_enter Tryz.func20, Tryz.ntmps20
  go_upto_region 1 with (fail)
  change Code.wp _ _ _ _ ((w.alloc (.cells X 62)).alloc (.cells Y 64))
  rw [HW.out]
  have c35 := HXC.out W (Below.refl _ _)
  obtain ⟨d0, -⟩ := HC.out W (Below.refl _ _)
  go_wp2_with fail
  refine (KR.out W).mono ?_
  rintro e w1 ⟨rfl, b1⟩
  have B1 : Hid (Below W.heap.size W w1) := hide b1
  obtain ⟨e0, e1, e2, e3, e4, e5, e6, e7, e8, e9, e10⟩ := HC.out w1 b1
  clear b1 c35 d0 r1 r2
  dsimp only
  obtain ⟨wa, hwa'⟩ : ∃ wa, w1.alloc (.cells #[.int .i64 2, .int .i64 2, .int .i64 2, .int .i64 2] 3) = wa := ⟨_, rfl⟩
  have Ba : Below W.heap.size W wa := by rw [← hwa']; exact B1.out.alloc B1.out.size _
  obtain ⟨a0, a1, a2, -, -, -, -, -, -, a9, a10⟩ := HC.out wa Ba
  have hza : wa.heap.size = w1.heap.size + 1 := by rw [← hwa']; simp
  have sza : IntsAt wa (w1.heap.size + 1) (some ⟨w1.heap.size, 0, none⟩) .i64 (fl.map fun f => (f.1 : Int)) := by rw [← hwa']; exact HSZ.out w1
  obtain ⟨wl, hwl⟩ : ∃ wl, wa.alloc (.cells #[.int .u64 (an : Int), .int .u64 (bn : Int), .int .u64 (8 + (D.length : Int)), .int .u64 0] 98) = wl := ⟨_, rfl⟩
  have Bl : Below W.heap.size W wl := by rw [← hwl]; exact Ba.alloc Ba.size _
  obtain ⟨b0, -⟩ := HC.out wl Bl
  have hzl : wl.heap.size = wa.heap.size + 1 := by rw [← hwl]; simp
  have nul : IntsAt wl (wa.heap.size + 1) (some ⟨wa.heap.size, 0, none⟩) .u64 (fl.map fun f => (f.2 : Int)) := by rw [← hwl]; exact HNU.out wa
  have szl : IntsAt wl (w1.heap.size + 1) (some ⟨w1.heap.size, 0, none⟩) .i64 (fl.map fun f => (f.1 : Int)) := by rw [← hwl]; exact sza.below ((Below.refl _ _).alloc (by omega) _)
  have HBl := hide Bl
  have HSL := hide szl
  have HNL := hide nul
  obtain ⟨gs, hgs⟩ : ∃ g, g = w1.heap.size := ⟨_, rfl⟩
  obtain ⟨gn, hgn⟩ : ∃ g, g = wa.heap.size := ⟨_, rfl⟩
  have HGS : Hid (gs < wl.heap.size) := hide (by omega)
  have HGN : Hid (gn < wl.heap.size) := hide (by omega)
  rw [← hgs] at HSL
  rw [← hgn] at HNL
  have HEG := hide (And.intro hgs hgn)
  clear hgs hgn Ba Bl sza szl nul hza hzl
  go_wp2
  rw [← HEG.out.1, ← HEG.out.2]
  clear hwa' hwl e0 e1 e2 e3 e4 e5 e6 e7 e8 e9 e10 a0 a1 a2 a9 a10 b0
  go_loopw [7, 8, 11] (fun v o i wr => ∃ j : Nat, j ≤ 4 ∧ i = .int .i64 (j : Int) ∧ Hid (TwoS wl wr v o (fl.take j)))
    (fun _ _ i _ => 4 - (intOf i).toNat)
  case atStart => exact ⟨0, by omega, rfl, hide ⟨World.ownsRow_nil _ _ _ _, World.ownsRow_nil _ _ _ _, .inl rfl, Below.refl _ _⟩⟩
  case round =>
    obtain ⟨j, hj, rfl, ht⟩ := hrel
    by_cases hlt : j < 4
    · have hjf : j < fl.length := by rw [HN9.out]; exact hlt
      obtain ⟨sz, hsz⟩ : ∃ m, m = (fl[j]).1 := ⟨_, rfl⟩
      obtain ⟨N, hN⟩ : ∃ m, m = (fl[j]).2 := ⟨_, rfl⟩
      have hs0 : wr.cell? ⟨gs, j, none⟩ = some (.int .i64 (sz : Int)) := by
        obtain ⟨b, off, e, hb, hc⟩ := HSL.out (by simp; omega)
        cases e
        have := hc j (by simpa using hjf)
        rw [Nat.zero_add] at this
        refine (ht.out.b.cell (p := ⟨gs, j, none⟩) HGS.out).trans (this.trans ?_)
        simp [hsz]
      have hn0 : Hid (∀ W1, Below wl.heap.size wl W1 → W1.cell? ⟨gn, j, none⟩ = some (.int .u64 (N : Int))) := hide (fun W1 b1 => by
        obtain ⟨b, off, e, hb, hc⟩ := HNL.out (by simp; omega)
        cases e
        have := hc j (by simpa using hjf)
        rw [Nat.zero_add] at this
        refine (b1.cell (p := ⟨gn, j, none⟩) HGN.out).trans (this.trans ?_)
        simp [hN])
      have hfe : fl.take (j + 1) = fl.take j ++ [(sz, N)] := by rw [fld_take hjf, hsz, hN]
      have HFE := hide hfe
      have hlo : Hid ((fldO (fl.take j)).length ≤ 16 ∧ (fldV (fl.take j)).length ≤ 16) := hide (by simp [fldO, fldV]; omega)
      obtain ⟨j0, hj0, hy0, hy1, hy2⟩ := info_parts info_refop5
      obtain ⟨i0, hi0, hz0', hz1', hz2⟩ := info_parts info_refval
      have hlit : (wr.alloc (.cells #[.int .i64 0, .int .i64 (sz : Int)] 101)).heap[wr.heap.size]? = some (.cells #[.int .i64 0, .int .i64 (sz : Int)] 101 (0, 0)) := heap_alloc_new wr _
      have HLIT := hide hlit
      have hj9 : (j : Int) < 4 := by omega
      clear hsz hN hfe hlit hjf
      go_wp2_with (at_builtin; refine wpList_app_two rfl (.tmp 97) (.tmp 103) wl.heap.size 96 101 j0 _ 16 rfl Tryz.underlying96 hj0 hy0 hy1 hy2 rfl u8 (fldO (fl.take j)).length (opCells (fldO (fl.take j))) (some ⟨wr.heap.size, 0, none⟩) 1 1 [.int .i64 0, .int .i64 (sz : Int)] rfl rfl (by exact World.ownsRow.alloc ht.out.ro _) rfl (fun _ => ⟨wr.heap.size, 0, rfl, fun n u hu => by rw [cell_of_row _ _ (0 + n) _ _ (0, 0) HLIT.out, Nat.zero_add]; simpa using hu⟩) (fun e => by cases e) (fun u hu => by simp at hu; rcases hu with rfl | rfl <;> rfl) (by have := hlo.out; unfold maxLen; omega) (by have := hlo.out; omega) (by have := ht.out.b.size; simp; omega) ?_)
      intro v6 w6 hown6 hgr6 hat6
      have hg6 : wr.grownBy w6 u8.ownBlock := grown_trans (World.grownBy_alloc wr _ _) hgr6
      have T6 := hide (ht.out.op (f := (sz, N)) hg6 (by rw [fldO_snoc, opCells_snoc, List.length_append]; exact hown6) (hat6.imp id (fun e k hk => by rw [e] at hk; cases hk; simp)))
      have O6 : Hid (w6.ownsRow wl.heap.size 101 2 v6 (fldO (fl.take (j + 1))).length (opCells (fldO (fl.take (j + 1))))) := hide (by rw [HFE.out, fldO_snoc, opCells_snoc, List.length_append]; exact hown6)
      have hn6 := hn0.out w6 T6.out.2.2
      clear hown6 hgr6 hat6 hg6 hs0 HLIT ht
      have hlit : (w6.alloc (.cells #[.int .u64 (N : Int), .slice none 0 0] 103)).heap[w6.heap.size]? = some (.cells #[.int .u64 (N : Int), .slice none 0 0] 103 (0, 0)) := heap_alloc_new w6 _
      have HLIT := hide hlit
      clear hlit
      go_wp2_with (at_builtin; refine wpList_app_two rfl (.tmp 105) (.tmp 111) wl.heap.size 95 103 i0 _ 32 rfl Tryz.underlying95 hi0 hz0' hz1' hz2 rfl u7 (fldV (fl.take j)).length (itemCells (fldV (fl.take j))) (some ⟨w6.heap.size, 0, none⟩) 1 1 [.int .u64 (N : Int), .slice none 0 0] rfl rfl (by exact World.ownsRow.alloc T6.out.1 _) rfl (fun _ => ⟨w6.heap.size, 0, rfl, fun n u hu => by rw [cell_of_row _ _ (0 + n) _ _ (0, 0) HLIT.out, Nat.zero_add]; simpa using hu⟩) (fun e => by cases e) (fun u hu => by simp at hu; rcases hu with rfl | rfl <;> rfl) (by have := hlo.out; unfold maxLen; omega) (by have := hlo.out; omega) (by have := T6.out.2.2.size; simp; omega) ?_)
      intro v7 w7 hown7 hgr7 hat7
      have hg7 : w6.grownBy w7 u7.ownBlock := grown_trans (World.grownBy_alloc w6 _ _) hgr7
      have T7 : Hid (TwoS wl w7 v7 v6 (fl.take (j + 1))) := hide ⟨by rw [HFE.out, fldV_snoc, itemCells_snoc, List.length_append]; exact hown7, World.ownsRow.kept O6.out hg7 (by
          rcases T6.out.2.1 with e | e
          · by_cases en : v6.ownBlock = none
            · exact .inl en
            · exact .inr (by rw [e]; exact en)
          · exact .inr (fun e2 => e e2.symm)), by
          rcases hat7 with e | e
          · rw [e]; exact T6.out.2.1
          · refine .inr ?_
            rw [e]
            intro e2
            have := (World.ownsRow.lt O6.out _ e2.symm).2
            first | omega | (simp at this; omega), T6.out.2.2.grown hg7 T6.out.2.2.size (fun k hk => (World.ownsRow.lt T6.out.1 k hk).1)⟩
      clear hown7 hgr7 hat7 hg7 HLIT hn6 T6 O6
      go_wp2
      go_roundw
      case rel => exact ⟨j + 1, by omega, by go_num, T7⟩
      case measure => simp [intOf]; omega
    · have hjl : j = fl.length := by rw [HN9.out]; omega
      have hj9 : ¬ (j : Int) < 4 := by omega
      rw [hjl, List.take_length] at ht
      obtain ⟨A5, c5, rfl, hrv⟩ := row_reads ht.out.rv
      obtain ⟨A6, c6, rfl, hro⟩ := row_ops ht.out.ro
      have hle : (fldV fl).length = fl.length := by simp [fldV]
      have hlo : (fldO fl).length = fl.length := by simp [fldO]
      have C := reflayN_any wr A5 A6 c5 c6 fl hrv hro HOK.out (by rw [HN9.out]; decide)
      rw [hle, hlo]
      have HC5 := hide C
      have BR : Hid (Below W.heap.size W wr) := hide (HBl.out.trans (ht.out.b.mono HBl.out.size))
      clear hrv hro C hle hlo hlt ht hjl
      go_wp2_with fail
      refine HC5.out.mono ?_
      rintro e w9 ⟨A9, c9, rfl, o9, b9⟩
      have B9 : Hid (Below W.heap.size W w9) := hide (BR.out.trans (b9.mono BR.out.size))
      rw [← HH.out] at o9
      have O9 : Hid (OwnB w9 W.heap.size (.slice A9 (hdB s).length c9) (hdB s)) := hide (own_low o9 BR.out.size)
      rw [← HH.out]
      obtain ⟨-, -, -, -, -, -, -, -, -, g9, -⟩ := HC.out w9 B9.out
      have HOb : Hid (Byt w9 w.heap.size s.ao O) := hide (HO.out.below (HB.out.trans (B9.out.mono HB.out.size)))
      clear o9 b9 HC5
      dsimp only
      go_wp2_with (at_builtin; refine wpList_app_bytes rfl (.tmp 119) (.tmp 121) rfl W.heap.size (.slice A9 (hdB s).length c9) _ O w.heap.size s.co s.ao rfl rfl (by exact O9.out) (by exact HOb.out) honil (by have := hlH.out; have := HSUM.out; omega) B9.out.size ?_)
      intro v10 w10 o10 g10 a10
      have B10 : Hid (Below W.heap.size W w10) := hide (B9.out.grown g10 B9.out.size (fun k hk => (World.ownsRow.lt O9.out k hk).1))
      have O10 : Hid (OwnB w10 W.heap.size v10 (hdB s ++ O)) := hide o10
      obtain ⟨-, -, -, -, -, -, -, -, -, -, h10⟩ := HC.out w10 B10.out
      have HDb : Hid (Byt w10 w.heap.size s.ad D) := hide (HD.out.below (HB.out.trans (B10.out.mono HB.out.size)))
      clear o10 g10 a10 g9
      go_wp2_with (at_builtin; refine wpList_app_bytes rfl (.tmp 123) (.tmp 125) rfl W.heap.size v10 _ D w.heap.size s.cd s.ad rfl rfl (by exact O10.out) (by exact HDb.out) hnil (by have := hlH.out; have := HSUM.out; rw [List.length_append]; omega) B10.out.size ?_)
      intro v11 w11 o11 g11 a11
      have B11 : Hid (Below W.heap.size W w11) := hide (B10.out.grown g11 B10.out.size (fun k hk => (World.ownsRow.lt O10.out k hk).1))
      obtain ⟨L, hL⟩ : ∃ L, L = seg0 s O D := ⟨_, rfl⟩
      have hown : OwnB w11 W.heap.size v11 L := by
        rw [hL]; unfold seg0; first | exact o11 | (rw [List.append_assoc]; exact o11)
      have hLn : L.length = 8 + O.length + D.length := by
        rw [hL]; unfold seg0; rw [List.length_append, List.length_append, hlH.out]
      have HLL := hide hL
      have h8 := (HC.out w11 B11.out).2.2.2.2.2.2.2.2.1
      have r11 := (hkeep.out w11 B11.out).1
      clear o11 g11 a11 h10 hL
      obtain ⟨g, cap, hv11, hlc, hg1, hgl⟩ := hown.pos (by omega)
      subst hv11
      have hby := OwnB.byt hown hgl
      have hL65 : L.length ≤ 65535 := by have := HSUM.out; omega
      by_cases hns : s.ns = true
      · have hfin : L = segB h s O D := by rw [HLL.out]; unfold segB; rw [if_pos hns]
        rw [hns] at h8
        have HFIN : Hid (OwnB w11 W.heap.size (.slice (some ⟨g, 0, none⟩) L.length cap) (segB h s O D)) := hide (by rw [← hfin]; exact hown)
        clear hown hfin hby hlc hg1 hgl
        go_wp2
        go_ret2
        exact ⟨_, rfl, own_low HFIN.out HB.out.size, HB.out.trans (B11.out.mono HB.out.size)⟩
      · have hnf : s.ns = false := by simpa using hns
        rw [hnf] at h8
        have hsg : Hid (segB h s O D = ((seg0 s O D).set 6 (b8 (((sumV h (seg0 s O D) 6 : Nat) : Int) / 256))).set (6 + 1) (b8 ((sumV h (seg0 s O D) 6 : Nat) : Int))) := hide (by unfold segB; rw [hnf, hp]; rfl)
        obtain ⟨N, hN⟩ : ∃ N, N = sumV h L 6 := ⟨_, rfl⟩
        have hN65 : N ≤ 65535 := by rw [hN]; exact sumV_le _ _ _
        have KU := refown5_any w11 X h HX.out (by rw [hp]; decide) (some ⟨g, 0, none⟩) cap L (hby.more (Nat.le_refl _)) hlc (by omega) (fun e => by cases e) (by rw [hp]; show 6 + 2 ≤ L.length; omega)
        rw [hp, show atS 17 = 6 from rfl, ← hN] at KU
        have HKU := hide KU
        have HOWN := hide hown
        have HLN := hide hLn
        have HL65 := hide hL65
        have HBG := hide hg1
        have HNN := hide hN
        have KP := hide (fun (W1 : World) => placeR_any W1 17)
        clear hown hby hlc hN hg1 hgl hLn hL65 KU
        go_wp2_with fail
        refine HKU.out.mono ?_
        rintro e w12 ⟨rfl, b12⟩
        have B12 : Hid (Below W.heap.size W w12) := hide (B11.out.trans (b12.mono B11.out.size))
        have O12 : OwnB w12 W.heap.size (.slice (some ⟨g, 0, none⟩) L.length cap) L := World.ownsRow.kept HOWN.out (below_row b12 none) (Classical.em _)
        have k12 := HXC.out w12 B12.out
        obtain ⟨x6, hx6⟩ : ∃ u, u = b8 ((N : Int) / 256) := ⟨_, rfl⟩
        obtain ⟨x7, hx7⟩ : ∃ u, u = b8 (N : Int) := ⟨_, rfl⟩
        have e6 := b8_eq ((N : Int) / 256)
        have e7 := b8_eq (N : Int)
        rw [← hx6] at e6
        rw [← hx7] at e7
        have HX6 := hide hx6
        have HX7 := hide hx7
        have f6 := O12.frozenAt 6
        have hc6 : ∃ u, w12.cell? ⟨g, 6, none⟩ = some u := ⟨_, (O12.cellAt 6 (by have := HLN.out; omega)).trans (List.getElem?_eq_getElem (by simp; have := HLN.out; omega))⟩
        obtain ⟨u6, c6'⟩ := hc6
        have ho2 := putByte O12 6 (by have := HLN.out; omega) x6
        have g2 := (World.ownsRow.stored O12 6 (.int .u8 (x6.toNat : Int))).2
        obtain ⟨w13, hw13⟩ : ∃ w', w12.setCell ⟨g, 6, none⟩ (.int .u8 (x6.toNat : Int)) = w' := ⟨_, rfl⟩
        have ho2' : OwnB w13 W.heap.size (.slice (some ⟨g, 0, none⟩) (L.set 6 x6).length cap) (L.set 6 x6) := by rw [← hw13, List.length_set]; exact ho2
        rw [hw13] at g2
        have B13 : Below W.heap.size W w13 := B12.out.grown g2 B12.out.size (fun k hk => by cases hk; exact HBG.out)
        have k13 := HXC.out w13 B13
        have f7 := ho2'.frozenAt (6 + 1)
        have hc7 : ∃ u, w13.cell? ⟨g, 6 + 1, none⟩ = some u := ⟨_, (ho2'.cellAt (6 + 1) (by simp; have := HLN.out; omega)).trans (List.getElem?_eq_getElem (by simp; have := HLN.out; omega))⟩
        obtain ⟨u7', c7'⟩ := hc7
        have ho3 := putByte ho2' (6 + 1) (by simp; have := HLN.out; omega) x7
        have g3 := (World.ownsRow.stored ho2' (6 + 1) (.int .u8 (x7.toNat : Int))).2
        obtain ⟨w14, hw14⟩ : ∃ w', w13.setCell ⟨g, 6 + 1, none⟩ (.int .u8 (x7.toNat : Int)) = w' := ⟨_, rfl⟩
        have ho3' : OwnB w14 W.heap.size (.slice (some ⟨g, 0, none⟩) L.length cap) ((L.set 6 x6).set (6 + 1) x7) := by rw [← hw14]; simp only [List.length_set] at ho3; exact ho3
        rw [hw14] at g3
        have B14 : Below W.heap.size W w14 := B13.grown g3 B13.size (fun k hk => by cases hk; exact HBG.out)
        have hl6 : (6 : Int) < (L.length : Int) := by have := HLN.out; omega
        have hl7 : (6 : Int) + 1 < (L.length : Int) := by have := HLN.out; omega
        have hfin : (L.set 6 x6).set (6 + 1) x7 = segB h s O D := by
          rw [hsg.out, HX6.out, HX7.out, HNN.out, HLL.out]
        have HFIN : Hid (OwnB w14 W.heap.size (.slice (some ⟨g, 0, none⟩) L.length cap) (segB h s O D)) := hide (by rw [← hfin]; exact ho3')
        have HC14 := hide B14
        have HK13 := hide k13
        clear hfin ho3' ho3 ho2' ho2 g2 g3 B13 B14 O12 hx6 hx7 b12 HKU k13 r11 h8
        dsimp only
        go_wp2_with fail
        refine (KP.out _).mono ?_
        rintro e w1' ⟨rfl, rfl⟩
        have k13 := HK13.out
        dsimp only
        go_wp2_with fail
        refine (KP.out _).mono ?_
        rintro e w1' ⟨rfl, rfl⟩
        dsimp only
        go_wp2
        go_ret2
        exact ⟨_, rfl, own_low HFIN.out HB.out.size, HB.out.trans (HC14.out.mono HB.out.size)⟩
end Go.Proofs.YtihakjcccbionaaGreatDoor

end
section
/-
  The walks of the document's own Put: a segment that can't be, one that is too long; whatever segment.
-/
namespace Go.Proofs.YtihakjcccbionaaGreatDoor
open Go.RowKit
attribute [local go_sem ↓] exec_span exec_put exec_build heap_alloc_new heap_old heap_alloc_drew
attribute [local go_sem] spanQ_ptr spanC_some heap_of_drew heap_of_drewN rs_arr rs_ad rs_ip rs_rip rs_seg rs_rseg putAt_ptr putOk_ptr oldOk_some World.setRow_alloc_new setRow_drew
set_option maxRecDepth 100000
set_option linter.unusedVariables false
set_option linter.unusedSimpArgs false

set_option maxHeartbeats 1600000 in
theorem refputP_any (w : World) (X Y : Array Value) (h : Ip) (s : Sg) (x : IpV X h) (y : SgV Y s) (hbad : ¬ ((h.p = 6 ∨ h.p = 17) ∧ s.p = h.p)) :
    Calls Tryz.prog 20 #[.agg X, .agg Y] w fun e w' => e = .returned (.tuple #[.slice none 0 0, .int .i64 14]) ∧ Below w.heap.size w w' := by
  obtain ⟨W, hW⟩ : ∃ W, (w.alloc (.cells X 62)).alloc (.cells Y 64) = W := ⟨_, rfl⟩
  obtain ⟨r1, r2, hz, hbW⟩ := two_packs w X _ _ _ W hW
  have hxs := x.size
  have hys := y.size
  have c35 := (x.cells r1).c35
  have d0 := (y.cells r2).c0
  obtain ⟨hp, hhp⟩ : ∃ v, v = h.p := ⟨_, rfl⟩
  obtain ⟨sp, hsp⟩ : ∃ v, v = s.p := ⟨_, rfl⟩
  rw [← hhp] at c35 hbad
  rw [← hsp] at d0 hbad
  have HB := hide hbW
  have HW := hide hW
  have key : ((hp != 6) = true ∧ (hp != 17) = true) ∨ (hp = 6 ∧ (sp != 6) = true) ∨ (hp = 17 ∧ (sp != 17) = true) := by
    by_cases h6 : hp = 6
    · subst h6; exact .inr (.inl ⟨rfl, by simpa using hbad⟩)
    · by_cases h17 : hp = 17
      · subst h17; exact .inr (.inr ⟨rfl, by simpa using hbad⟩)
      · exact .inl ⟨by simpa using h6, by simpa using h17⟩
  clear hz hbW hW x y hhp hsp hbad
  rcases key with ⟨q1, q2⟩ | ⟨rfl, q1⟩ | ⟨rfl, q1⟩
  all_goals (
    go_enter Tryz.func20, Tryz.ntmps20
    go_upto_region 1 with (fail)
    change Code.wp _ _ _ _ ((w.alloc (.cells X 62)).alloc (.cells Y 64))
    rw [HW.out]
    go_wp2
    go_ret2
    exact ⟨rfl, HB.out⟩)

set_option maxHeartbeats 1600000 in
theorem refputA_any (w : World) (X Y : Array Value) (h : Ip) (s : Sg) (x : IpV X h) (y : SgV Y s) (p : Int) (hp : p = h.p) (hpp : p = 6 ∨ p = 17) (sp : s.p = h.p) (hbad : rightR5 h s = false) :
    Calls Tryz.prog 20 #[.agg X, .agg Y] w fun e w' => e = .returned (.tuple #[.slice none 0 0, .int .i64 1]) ∧ Below w.heap.size w w' := by
  obtain ⟨W, hW⟩ : ∃ W, (w.alloc (.cells X 62)).alloc (.cells Y 64) = W := ⟨_, rfl⟩
  obtain ⟨r1, r2, hz, hbW⟩ := two_packs w X _ _ _ W hW
  have hxs := x.size
  have hxr := x.x0
  have hys := y.size
  have hyr := y.x0
  have KR := hide (fun W1 => refright5_any W1 X Y h s x y)
  rw [hbad] at KR
  have c35 := (x.cells r1).c35
  have d0 := (y.cells r2).c0
  rw [← hp] at c35
  rw [sp, ← hp] at d0
  have HB := hide hbW
  have HW := hide hW
  clear hz hbW hW x y hp sp hbad
  rcases hpp with rfl | rfl
  all_goals (
    go_enter Tryz.func20, Tryz.ntmps20
    go_upto_region 1 with (fail)
    change Code.wp _ _ _ _ ((w.alloc (.cells X 62)).alloc (.cells Y 64))
    rw [HW.out]
    go_wp2_with fail
    refine (KR.out W).mono ?_
    rintro e w1 ⟨rfl, b1⟩
    have B1 : Hid (Below W.heap.size W w1) := hide b1
    clear b1
    dsimp only
    go_wp2
    go_ret2
    exact ⟨rfl, HB.out.trans (B1.out.mono HB.out.size)⟩)

set_option maxHeartbeats 1600000 in
theorem refputZ_any (w : World) (X Y : Array Value) (h : Ip) (s : Sg) (x : IpV X h) (y : SgV Y s) (p : Int) (hp : p = h.p) (hpp : p = 6 ∨ p = 17) (sp : s.p = h.p) (hno : p = 6 → s.no ≤ 40) (hnd : s.nd ≤ 140737488355328) (hr : rightR5 h s = true) (hbig : 65535 < hdN s + s.nd) :
    Calls Tryz.prog 20 #[.agg X, .agg Y] w fun e w' => e = .returned (.tuple #[.slice none 0 0, .int .i64 3]) ∧ Below w.heap.size w w' := by
  obtain ⟨W, hW⟩ : ∃ W, (w.alloc (.cells X 62)).alloc (.cells Y 64) = W := ⟨_, rfl⟩
  obtain ⟨r1, r2, hz, hbW⟩ := two_packs w X _ _ _ W hW
  have hxs := x.size
  have hxr := x.x0
  have hys := y.size
  have hyr := y.x0
  have KR := hide (fun W1 => refright5_any W1 X Y h s x y)
  rw [hr] at KR
  have hkeep := hide (fun (W1 : World) (b : Below W.heap.size W W1) => ((b.block (w.heap.size + 1) (by omega)).trans r2 : W1.heap[w.heap.size + 1]? = some (.cells Y 64 (0, 0))))
  have HY := hide (fun (W1 : World) (b : Below W.heap.size W W1) => y.cells (hkeep.out W1 b))
  have c35 := (x.cells r1).c35
  have d0 := (y.cells r2).c0
  rw [← hp] at c35
  rw [sp, ← hp] at d0
  obtain ⟨nd, hnd'⟩ : ∃ v, v = s.nd := ⟨_, rfl⟩
  obtain ⟨no, hno'⟩ : ∃ v, v = s.no := ⟨_, rfl⟩
  have hbg : (p = 6 → 65535 < 20 + no + nd ∧ no ≤ 40) ∧ (p = 17 → 65535 < 8 + nd) := by
    unfold hdN at hbig
    rw [← hno', ← hnd'] at hbig
    rw [← hno'] at hno
    refine ⟨fun e => ?_, fun e => ?_⟩
    · rw [if_pos (by omega)] at hbig; exact ⟨hbig, hno e⟩
    · rw [if_neg (by omega)] at hbig; exact hbig
  rw [← hnd'] at hnd
  have HC := hide (fun (W1 : World) (b : Below W.heap.size W W1) => (⟨(HY.out W1 b).c0, (HY.out W1 b).c9, (HY.out W1 b).c10⟩ : W1.cell? ⟨w.heap.size + 1, 0, none⟩ = some (.int .i64 s.p) ∧ W1.cell? ⟨w.heap.size + 1, 9, none⟩ = some (.slice s.ao s.no s.co) ∧ W1.cell? ⟨w.heap.size + 1, 10, none⟩ = some (.slice s.ad s.nd s.cd)))
  rw [sp, ← hp, ← hno', ← hnd'] at HC
  have HB := hide hbW
  have HW := hide hW
  clear hz hbW hW x y hp sp hbig hno hno' hnd' hkeep HY
  rcases hpp with rfl | rfl
  · obtain ⟨hb1, hb2⟩ := hbg.1 rfl
    have hw20 : IntKind.i64.wrap (20 + (no : Int)) = 20 + (no : Int) := IntWalk.i64_in _ (by omega)
    have hws : IntKind.i64.wrap (65535 - (20 + (no : Int))) = 65535 - (20 + (no : Int)) := IntWalk.i64_in _ (by omega)
    have hgt : 65535 - (20 + (no : Int)) < (nd : Int) := by omega
    clear hbg
    go_enter Tryz.func20, Tryz.ntmps20
    go_upto_region 1 with (fail)
    change Code.wp _ _ _ _ ((w.alloc (.cells X 62)).alloc (.cells Y 64))
    rw [HW.out]
    go_wp2_with fail
    refine (KR.out W).mono ?_
    rintro e w1 ⟨rfl, b1⟩
    have B1 : Hid (Below W.heap.size W w1) := hide b1
    obtain ⟨e0, e9, e10⟩ := HC.out w1 b1
    clear b1
    dsimp only
    go_wp2
    go_ret2
    exact ⟨rfl, HB.out.trans (B1.out.mono HB.out.size)⟩
  · have hb1 := hbg.2 rfl
    have hws : IntKind.i64.wrap (65535 - 8) = 65527 := by rfl
    have hgt : (65527 : Int) < (nd : Int) := by omega
    clear hbg
    go_enter Tryz.func20, Tryz.ntmps20
    go_upto_region 1 with (fail)
    change Code.wp _ _ _ _ ((w.alloc (.cells X 62)).alloc (.cells Y 64))
    rw [HW.out]
    go_wp2_with fail
    refine (KR.out W).mono ?_
    rintro e w1 ⟨rfl, b1⟩
    have B1 : Hid (Below W.heap.size W w1) := hide b1
    obtain ⟨e0, e9, e10⟩ := HC.out w1 b1
    clear b1
    dsimp only
    go_wp2
    go_ret2
    exact ⟨rfl, HB.out.trans (B1.out.mono HB.out.size)⟩

/-- the document's Put of whatever segment, whatever packet it is within. -/
theorem refputS_any (w : World) (X Y : Array Value) (h : Ip) (s : Sg) (x : IpV X h) (y : SgV Y s) (O D : List UInt8) (hO : Byt w w.heap.size s.ao O) (hOl : O.length = s.no) (honil : s.ao = none → s.co = 0) (hD : Byt w w.heap.size s.ad D) (hDl : D.length = s.nd) (hnil : s.ad = none → s.cd = 0) (hnd : s.nd ≤ 140737488355328) :
    Calls Tryz.prog 20 #[.agg X, .agg Y] w fun e w' => ∃ A c, e = .returned (.tuple #[.slice A (putB h s O D).length c, .int .i64 (putE h s)]) ∧ OwnB w' w.heap.size (.slice A (putB h s O D).length c) (putB h s O D) ∧ Below w.heap.size w w' := by
  have bad : ∀ E : Int, E ≠ 0 → putE h s = E → (Calls Tryz.prog 20 #[.agg X, .agg Y] w fun e w' => e = .returned (.tuple #[.slice none 0 0, .int .i64 E]) ∧ Below w.heap.size w w') → Calls Tryz.prog 20 #[.agg X, .agg Y] w fun e w' => ∃ A c, e = .returned (.tuple #[.slice A (putB h s O D).length c, .int .i64 (putE h s)]) ∧ OwnB w' w.heap.size (.slice A (putB h s O D).length c) (putB h s O D) ∧ Below w.heap.size w w' := fun E h0 hE hc => by
    have hB : putB h s O D = [] := by unfold putB; rw [if_neg (by rw [hE]; exact h0)]
    rw [hB, hE]
    exact hc.mono fun e w' ⟨h1, h2⟩ => ⟨none, 0, h1, OwnB.nil _ _, h2⟩
  by_cases hps : (h.p = 6 ∨ h.p = 17) ∧ s.p = h.p
  · obtain ⟨hp, sp⟩ := hps
    by_cases hk : rightS s = true ∧ (s.ns && h.v) = false
    · have hR := rightR5_of.2 hk
      by_cases hz : 65535 < hdN s + s.nd
      · exact bad 3 (by decide) (by unfold putE; rw [if_pos ⟨hp, sp⟩, if_pos hk, if_pos hz]) (refputZ_any w X Y h s x y h.p rfl hp sp (fun e => ((rightS_facts hk.1).2.2.1 (by rw [sp]; exact e)).2.2.2.1) hnd hR hz)
      · have hE : putE h s = 0 := by unfold putE; rw [if_pos ⟨hp, sp⟩, if_pos hk, if_neg hz]
        have hB : putB h s O D = segB h s O D := by unfold putB; rw [if_pos hE]
        have fin : (Calls Tryz.prog 20 #[.agg X, .agg Y] w fun e w' => ∃ v, e = .returned (.tuple #[v, .int .i64 0]) ∧ OwnB w' w.heap.size v (segB h s O D) ∧ Below w.heap.size w w') → _ := fun hc => hc.mono (R' := fun e w' => ∃ A c, e = .returned (.tuple #[.slice A (putB h s O D).length c, .int .i64 (putE h s)]) ∧ OwnB w' w.heap.size (.slice A (putB h s O D).length c) (putB h s O D) ∧ Below w.heap.size w w') fun e w' ⟨v, h1, h2, h3⟩ => by
          obtain ⟨A, c, rfl, -⟩ := h2.shape
          rw [hB, hE]
          exact ⟨A, c, h1, h2, h3⟩
        rcases hp with hp | hp
        · exact fin (refputT_any w X Y h s x y hp (by rw [sp]; exact hp) hk.1 hk.2 O D hO hOl honil hD hDl hnil (by omega))
        · exact fin (refputU_any w X Y h s x y hp (by rw [sp]; exact hp) hk.1 hk.2 O D hO hOl honil hD hDl hnil (by omega))
    · exact bad 1 (by decide) (by unfold putE; rw [if_pos ⟨hp, sp⟩, if_neg hk]) (refputA_any w X Y h s x y h.p rfl hp sp (by
        cases e : rightR5 h s
        · rfl
        · exact absurd (rightR5_of.1 e) hk))
  · exact bad 14 (by decide) (by unfold putE; rw [if_neg hps]) (refputP_any w X Y h s x y hps)
end Go.Proofs.YtihakjcccbionaaGreatDoor

end
