import Derived.Test.YtihakjcccbionaaGreatDoorMih
import Derived.Test.YtihakjcccbionaaGreatDoorMad
import Derived.Deep.RegionHeld3
section
/-
  The walk of header.putFour.
-/
namespace Go.Proofs.YtihakjcccbionaaGreatDoor
open Go.RowKit
set_option maxRecDepth 100000
set_option linter.unusedVariables false
set_option linter.unusedSimpArgs false

/-- the numbers of a head of four, but for its sum. -/
def fourF (h : Ip) (n : Nat) : List (Nat × Nat) := [(1, 64 + n / 4), (1, h.tos.toNat), (2, n + h.nd), (2, h.id.toNat), (2, if h.df then 16384 else 0), (1, h.ttl.toNat), (1, h.p.toNat)]
def four1 (h : Ip) (B O : List UInt8) (n : Nat) : List UInt8 := splice (splice (splice (splice B 0 (fldB (fourF h n))) 12 (h.sb.take 4)) 16 (h.db.take 4)) 20 O
/-- what putFour makes of the bytes of a row, of which the first n are the head. -/
def fourB (h : Ip) (B O : List UInt8) (n : Nat) : List UInt8 := splice (four1 h B O n) 10 (numBytes (headS ((four1 h B O n).take n)) 2 2)

theorem Byt.front {w : World} {B : Nat} {A : Option Addr} {l : List UInt8} (h : Byt w B A l) (k : Nat) : Byt w B A (l.take k) := fun hp => by
  obtain ⟨b, off, e, hB, hc⟩ := h (by simp at hp; omega)
  exact ⟨b, off, e, hB, fun i hi => by rw [hc i (by simp at hi; omega)]; simp⟩
theorem or64 : ∀ {q : Nat}, q < 64 → bits BinOp.or IntKind.i64 64 (q : Int) = 64 + (q : Int) := by decide
theorem heap_size_alloc' (w : World) (o : Obj) : (w.alloc o).heap.size = w.heap.size + 1 := by simp
set_option maxHeartbeats 4000000 in
theorem putfour_any (w : World) (g n c : Nat) (ty : TypeId) (X : Array Value) (h : Ip) (x : IpV X h) (B O : List UInt8) (hg : w.heap[g]? = some (.cells (B.map byteV).toArray ty (0, 0))) (hn : n = 20 + h.no) (hnB : n ≤ B.length) (hnc : n ≤ c)
    (ht : 0 ≤ h.tos ∧ h.tos ≤ 255) (hp : 0 ≤ h.p ∧ h.p ≤ 255) (htl : 0 ≤ h.ttl ∧ h.ttl ≤ 255) (hid : 0 ≤ h.id ∧ h.id ≤ 65535) (h40 : h.no ≤ 40) (h4 : h.no % 4 = 0) (hs : n + h.nd ≤ 65535) (hO : Byt w g h.ao O) (hOl : O.length = h.no) :
    Calls Tryz.prog 39 #[.slice (some ⟨g, 0, none⟩) n c, .agg X] w fun e w' => e = .returned (.tuple #[]) ∧ w'.heap[g]? = some (.cells ((fourB h B O n).map byteV).toArray ty (0, 0)) ∧ w.grownBy w' (some g) := by
  obtain ⟨W, hW, h1, hz, hb⟩ := one_block w (.cells X 51)
  have hc := x.cells h1
  obtain ⟨tos, htos⟩ : ∃ k : Nat, h.tos = (k : Int) := ⟨h.tos.toNat, by omega⟩
  obtain ⟨p, hpp⟩ : ∃ k : Nat, h.p = (k : Int) := ⟨h.p.toNat, by omega⟩
  obtain ⟨ttl, httl⟩ : ∃ k : Nat, h.ttl = (k : Int) := ⟨h.ttl.toNat, by omega⟩
  obtain ⟨id, hidd⟩ : ∃ k : Nat, h.id = (k : Int) := ⟨h.id.toNat, by omega⟩
  obtain ⟨nd, hnd⟩ : ∃ k : Nat, k = h.nd := ⟨_, rfl⟩
  obtain ⟨no, hno⟩ : ∃ k : Nat, k = h.no := ⟨_, rfl⟩
  obtain ⟨df, hdf⟩ : ∃ v, v = h.df := ⟨_, rfl⟩
  obtain ⟨q, hq⟩ : ∃ k : Nat, k = n / 4 := ⟨_, rfl⟩
  obtain ⟨part, hpart⟩ : ∃ k : Nat, k = if df then 16384 else 0 := ⟨_, rfl⟩
  obtain ⟨pv, hpv⟩ : ∃ v : Int, v = if df then 16384 else 0 := ⟨_, rfl⟩
  have hpvp : (part : Int) = pv := by rw [hpart, hpv]; split <;> rfl
  have hF : fourF h n = [(1, 64 + q), (1, tos), (2, n + nd), (2, id), (2, part), (1, ttl), (1, p)] := by
    unfold fourF
    rw [htos, hpp, httl, hidd, hnd, hpart, hdf, hq]; simp
  have c7 := hc.c39
  have c5 := hc.c37
  have c10' := hc.c42
  have c9 := hc.c41
  have c6 := hc.c38
  have c4 := hc.c36
  have c3 := hc.c35
  rw [htos] at c5 ht
  rw [hpp] at c3 hp
  rw [httl] at c4 htl
  rw [hidd] at c6 hid
  rw [← hdf] at c7
  rw [← hnd] at c10' hs
  rw [← hno] at c9 hn h40 h4 hOl
  have hF8 : fldOk (fourF h n) := by
    rw [hF]
    intro f hf
    simp at hf
    have hpt : part ≤ 16384 := by rw [hpart]; split <;> omega
    rcases hf with rfl | rfl | rfl | rfl | rfl | rfl | rfl <;> exact ⟨by simp, by simp, by simp; omega, by simp; omega⟩
  have hqi : (n : Int) / 4 = (q : Int) := by omega
  have hq64 : q < 64 := by omega
  have hor := or64 hq64
  have s4 : (h.sb.take 4).length = 4 := by simp [x.ls]
  have d4 : (h.db.take 4).length = 4 := by simp [x.ld]
  obtain ⟨S, hS⟩ : ∃ S, S = h.sb.take 4 := ⟨_, rfl⟩
  obtain ⟨D, hD⟩ : ∃ D, D = h.db.take 4 := ⟨_, rfl⟩
  obtain ⟨F, hFl⟩ : ∃ F, F = fldB (fourF h n) := ⟨_, rfl⟩
  have hFn : F.length = 10 := by rw [hFl, hF]; simp [fldB, length_numBytes]
  have hR : fourB h B O n = splice (splice (splice (splice (splice B 0 F) 12 S) 16 D) 20 O) 10 (numBytes (headS ((splice (splice (splice (splice B 0 F) 12 S) 16 D) 20 O).take n)) 2 2) := by
    unfold fourB four1; rw [hS, hD, hFl]
  have HLAY := hide (fun (W : World) => layH_any (W.alloc (.cells #[.int .i64 1, .int .i64 (64 + (q : Int)), .int .i64 1, .int .i64 (tos : Int), .int .i64 2, .int .i64 ((n : Int) + (nd : Int)), .int .i64 2, .int .i64 (id : Int), .int .i64 2, .int .i64 pv, .int .i64 1, .int .i64 (ttl : Int), .int .i64 1, .int .i64 (p : Int)] 133)) (some ⟨W.heap.size, 0, none⟩) 7 (fourF h n)
    (by rw [heap_size_alloc']; exact Ops.lit W _ _ _ _ (by rw [hF]; simp [fldF, hpvp])) hF8 (by rw [hF]; simp))
  rw [← hFl, hFn, show (fourF h n).length = 7 by rw [hF]; rfl] at HLAY
  rw [← hS] at s4
  rw [← hD] at d4
  have hB := hide hb
  have hZ := hide hz
  have hG := hide hg
  have H1 := hide h1
  have HN := hide hn
  have HOL := hide hOl
  have HPT := hide hpart
  have HR := hide hR
  have HQ := hide hq
  have HS := hide hS
  have HD := hide hD
  have S4 := hide s4
  have D4 := hide d4
  have F10 := hide hFn
  clear hz hb hc hg h1 hn hOl hpart hpvp hF hF8 hdf hnd htos hpp httl hidd hR hq hS hD s4 d4 hFn hFl
  have hgw : g < w.heap.size := (Array.getElem?_eq_some_iff.1 hG.out).1
  have HGW := hide hgw
  have h20 : 20 ≤ n := by have := HN.out; omega
  have hbl : Hid (n ≤ B.length) := hide hnB
  clear hgw hnB
  have hOL40 : Hid (O.length = n - 20) := hide (by have := HN.out; have := HOL.out; omega)
  have hO0 := hide hO
  have HX41 := hide (fun (w' : World) (h' : w'.heap[w.heap.size]? = some (.cells X 51 (0, 0))) => (x.cells h').c41)
  rw [← hno] at HX41
  clear hno hO
  have HBS := hide (fun (w' : World) (h' : w'.heap[w.heap.size]? = some (.cells X 51 (0, 0))) => And.intro ((x.bytS (B := w.heap.size + 1) h' (by omega)).front 4) ((x.bytD (B := w.heap.size + 1) h' (by omega)).front 4))
  rw [← HS.out, ← HD.out] at HBS
  have i10 : (10 : Int) ≤ (n : Int) := by omega
  have i12 : (12 : Int) ≤ (n : Int) := by omega
  have i16 : (16 : Int) ≤ (n : Int) := by omega
  have i20 : (20 : Int) ≤ (n : Int) := by omega
  have c10 : ¬ c = 10 := by omega
  have c12 : ¬ c = 12 := by omega
  have c16 : ¬ c = 16 := by omega
  obtain ⟨dp7, hdp7⟩ : ∃ d, (if c = 20 then some (⟨g, 0, none⟩ : Addr) else some ⟨g, 20, none⟩) = d := ⟨_, rfl⟩
  have HDP : Hid (0 < no → dp7 = some ⟨g, 20, none⟩) := hide (fun hp => by rw [← hdp7, if_neg (by have := HN.out; omega)])
  cases df
  all_goals (
    simp at hpv
    subst hpv
    go_enter Tryz.func39, Tryz.ntmps39
    go_wp2_with fail
    refine (HLAY.out _).mono ?_
    rintro _ w2 ⟨A2, c2, rfl, ho2, hb2⟩
    have k2 : Below W.heap.size W w2 := ((Below.refl _ W).alloc (Nat.le_refl _) _).trans (hb2.mono (by simp))
    have B2 : Below w.heap.size w w2 := hB.out.trans (k2.mono hB.out.size)
    have hX2 := row_kept k2 (by have := hZ.out; omega) H1.out
    have hg2 := (B2.block g HGW.out).trans hG.out
    have by2 : Byt w2 w2.heap.size A2 F := by
      obtain ⟨A', c', e, _, hb, _⟩ := ho2.shape
      injection e with e1 e2 e3
      subst e1
      exact hb
    have G2 := hide hg2
    have Y2 := hide by2
    have X2 := hide hX2
    have R2 := hide (Below.row B2 (some g))
    clear k2 B2 hX2 hg2 by2 ho2 hb2 c3 c4 c5 c6 c7 c10'
    have l1 : 10 ≤ n := by omega
    have l2 : 0 + 10 ≤ B.length := by have := hbl.out; omega
    dsimp only
    go_wp2_with (with_reducible refine wpList_copy_bytes rfl (.tmp 7) (.tmp 35) rfl g 0 n c A2 10 c2 B F w2.heap.size ty rfl rfl F10.out G2.out Y2.out l1 l2 ?_)
    intro w3 hg3 hgr3
    have R3 := hide (grown_trans R2.out hgr3)
    have XL : Hid (w.heap.size < w3.heap.size) := hide (by have := hgr3.size; have := (Array.getElem?_eq_some_iff.1 X2.out).1; omega)
    have X3 := hide ((hgr3.block w.heap.size (by have := R2.out.size; have := (Array.getElem?_eq_some_iff.1 X2.out).1; omega) (by have := HGW.out; simp; omega)).trans X2.out)
    have G3 := hide hg3
    clear hg3 hgr3
    obtain ⟨B1, hB1⟩ : ∃ B', B' = splice B 0 F := ⟨_, rfl⟩
    rw [← hB1] at G3
    have L1 : Hid (B1.length = B.length) := hide (by rw [hB1, length_splice _ _ _ (by rw [F10.out]; have := hbl.out; omega)])
    rw [← hB1] at HR
    clear hB1
    go_wp2
    go_region_law (refine step_copy_bytes rfl (.tmp 38) (.tmp 41) rfl g 12 (some ⟨g, 12, none⟩) (n - 12) (c - 12) (some ⟨w.heap.size, 2, none⟩) 4 16 B1 S (w.heap.size + 1) ty (by rfl) (fun _ => rfl) (by rfl) S4.out G3.out (HBS.out w3 X3.out).1 (by omega) (by rw [L1.out]; have := hbl.out; omega) ?_; intro w4 hg4 hgr4)
    have R4 := hide (grown_trans R3.out (⟨hgr4.os, hgr4.tape, hgr4.output, hgr4.size, hgr4.block⟩ : w3.grownBy w4 (some g)))
    have XL4 : Hid (w.heap.size < w4.heap.size) := hide (Nat.lt_of_lt_of_le XL.out hgr4.size)
    have X4 := hide ((hgr4.block w.heap.size XL.out (by have := HGW.out; simp; omega)).trans X3.out)
    have G4 := hide hg4
    obtain ⟨B2, hB2⟩ : ∃ B', B' = splice B1 12 S := ⟨_, rfl⟩
    rw [← hB2] at G4
    have L2 : Hid (B2.length = B.length) := hide (by rw [hB2, length_splice _ _ _ (by rw [S4.out, L1.out]; have := hbl.out; omega), L1.out])
    rw [← hB2] at HR
    clear hB2 hg4 hgr4
    go_wp2
    go_region_law (refine step_copy_bytes rfl (.tmp 44) (.tmp 47) rfl g 16 (some ⟨g, 16, none⟩) (n - 16) (c - 16) (some ⟨w.heap.size, 19, none⟩) 4 16 B2 D (w.heap.size + 1) ty (by rfl) (fun _ => rfl) (by rfl) D4.out G4.out (HBS.out w4 X4.out).2 (by omega) (by rw [L2.out]; have := hbl.out; omega) ?_; intro w5 hg5 hgr5)
    have R5 := hide (grown_trans R4.out (⟨hgr5.os, hgr5.tape, hgr5.output, hgr5.size, hgr5.block⟩ : w4.grownBy w5 (some g)))
    have XL5 : Hid (w.heap.size < w5.heap.size) := hide (Nat.lt_of_lt_of_le XL4.out hgr5.size)
    have X5 := hide ((hgr5.block w.heap.size XL4.out (by have := HGW.out; simp; omega)).trans X4.out)
    have G5 := hide hg5
    obtain ⟨B3, hB3⟩ : ∃ B', B' = splice B2 16 D := ⟨_, rfl⟩
    rw [← hB3] at G5
    have L3 : Hid (B3.length = B.length) := hide (by rw [hB3, length_splice _ _ _ (by rw [D4.out, L2.out]; have := hbl.out; omega), L2.out])
    rw [← hB3] at HR
    clear hB3 hg5 hgr5
    have k41 := HX41.out w5 X5.out
    have O5 := hide (hO0.out.row R5.out)
    go_wp2
    go_region_law (refine step_copy_bytes rfl (.tmp 50) (.tmp 52) rfl g 20 dp7 (n - 20) (c - 20) h.ao no h.co B3 O g ty (by rfl) HDP.out (by rfl) HOL.out G5.out O5.out (by have := HN.out; omega) (by rw [L3.out]; have := hbl.out; have := HN.out; omega) ?_; intro w6 hg6 hgr6)
    have R6 := hide (grown_trans R5.out (⟨hgr6.os, hgr6.tape, hgr6.output, hgr6.size, hgr6.block⟩ : w5.grownBy w6 (some g)))
    have G6 := hide hg6
    obtain ⟨B4, hB4⟩ : ∃ B', B' = splice B3 20 O := ⟨_, rfl⟩
    rw [← hB4] at G6
    have L4 : Hid (B4.length = B.length) := hide (by rw [hB4, length_splice _ _ _ (by rw [HOL.out, L3.out]; have := hbl.out; have := HN.out; omega), L3.out])
    rw [← hB4] at HR
    have ln : (B4.take n).length = n := by rw [List.length_take, L4.out]; exact Nat.min_eq_left hbl.out
    have hgl : g < w6.heap.size := (Array.getElem?_eq_some_iff.1 hg6).1
    have GL := hide hgl
    have by6 : Byt w6 w6.heap.size (some ⟨g, 0, none⟩) (B4.take n) := fun hp => ⟨g, 0, rfl, hgl, fun i hi => by
      have hi' : i < n := by simpa [ln] using hi
      have hi2 : i < B4.length := by have := L4.out; have := hbl.out; omega
      rw [cell_of_row w6 _ _ _ _ _ G6.out, Nat.zero_add, List.getElem?_toArray, List.getElem?_map, List.getElem?_eq_getElem hi2]
      simp [byteV]⟩
    have HSUM : Hid (∀ k, Calls Tryz.prog 74 #[.slice (some ⟨g, 0, none⟩) n c] (w6.drewN k) fun e w' => e = .returned (.int .u16 (headS (B4.take n) : Nat)) ∧ Below w6.heap.size w6 w') := hide (fun k => by
      have := headsum_any (w6.drewN k) g 0 w6.heap.size c (B4.take n) (by omega) (by omega) (by omega) (by6.drewN k)
      rw [ln] at this
      exact this.mono (fun e w' ⟨h1, k', h2⟩ => ⟨h1, by rw [h2]; exact below_drewN (below_drewN (Below.refl _ w6) k) k'⟩))
    obtain ⟨sm, hsm⟩ : ∃ s, s = headS (B4.take n) := ⟨_, rfl⟩
    have hsm1 : sm ≤ 65535 := by rw [hsm]; exact headS_le _
    rw [← hsm] at HR HSUM
    have hwr : IntKind.i64.wrap (sm : Int) = (sm : Int) := IntWalk.i64_in _ (by omega)
    have HLAY2 : Hid (∀ W' : World, Calls Tryz.prog 73 #[.slice (some ⟨W'.heap.size, 0, none⟩) 1 1] (W'.alloc (.cells #[.int .i64 2, .int .i64 (sm : Int)] 133)) fun e w' => ∃ A' c', e = .returned (.slice A' 2 c') ∧ OwnB w' (W'.heap.size + 1) (.slice A' 2 c') (numBytes sm 2 2) ∧ Below (W'.heap.size + 1) (W'.alloc (.cells #[.int .i64 2, .int .i64 (sm : Int)] 133)) w') := hide (fun W' => by
      have := layH_any (W'.alloc (.cells #[.int .i64 2, .int .i64 (sm : Int)] 133)) (some ⟨W'.heap.size, 0, none⟩) 1 [(2, sm)] (by rw [heap_size_alloc']; exact Ops.lit W' _ _ _ _ (by simp [fldF])) (fun f hf => by simp at hf; subst hf; exact ⟨by simp, by simp, by simp; omega, by simp; omega⟩) (by simp)
      have e : fldB [(2, sm)] = numBytes sm 2 2 := by simp [fldB]
      rw [e, length_numBytes, heap_size_alloc'] at this
      exact this)
    clear hB4 hg6 hgr6 ln by6 hsm k41
    go_wp2
    go_region_law (first
      | (go_simp; go_at_call 74; refine (HSUM.out 1).mono ?_; rintro e w7 ⟨rfl, hb7⟩)
      | (go_simp; go_at_call 73; refine (HLAY2.out _).mono ?_; rintro e w8 ⟨A8, c8, rfl, ho8, hb8⟩
         have k8 : Below w6.heap.size w6 w8 := (hb7.alloc hb7.size _).trans (hb8.mono (by have := hb7.size; omega))
         have G8 := row_kept k8 GL.out G6.out
         have y8 : Byt w8 w8.heap.size A8 (numBytes sm 2 2) := by
           obtain ⟨A', c', e, _, hb, _⟩ := ho8.shape
           injection e with e1 e2 e3
           subst e1
           exact hb)
      | (refine step_copy_bytes rfl (.tmp 55) (.tmp 61) rfl g 10 (some ⟨g, 10, none⟩) (n - 10) (c - 10) A8 2 c8 B4 (numBytes sm 2 2) w8.heap.size ty (by rfl) (fun _ => rfl) (by rfl) (length_numBytes _ _ _) G8 y8 (by omega) (by rw [L4.out]; have := hbl.out; omega) ?_; intro w9 hg9 hgr9)
      | fail)
    have k8g := Below.row k8 (some g)
    have R9 := grown_trans (grown_trans R6.out k8g) hgr9
    have hfin : w9.heap[g]? = some (.cells ((fourB h B O n).map byteV).toArray ty (0, 0)) := by rw [HR.out]; exact hg9
    have H9 := hide hfin
    have R9 := hide R9
    clear hfin hg9 hgr9 k8g k8 G8 y8 hb7 hb8 ho8
    go_wp2
    go_end0
    exact ⟨rfl, H9.out, R9.out⟩)
end Go.Proofs.YtihakjcccbionaaGreatDoor

end
section
/-
  The walk of header.putSix.
-/
namespace Go.Proofs.YtihakjcccbionaaGreatDoor
open Go.RowKit
set_option maxRecDepth 100000
set_option linter.unusedVariables false
set_option linter.unusedSimpArgs false

/-- the numbers of a head of six. -/
def sixF (h : Ip) : List (Nat × Nat) := [(4, 1610612736 + h.tos.toNat * 1048576 + h.lab.toNat), (2, h.nd), (1, h.p.toNat), (1, h.ttl.toNat)]
/-- what putSix makes of the bytes of a row. -/
def sixB (h : Ip) (B : List UInt8) : List UInt8 := splice (splice (splice B 0 (fldB (sixF h))) 8 h.sb) 24 h.db

theorem bits_or_i64_nat (a b : Nat) (ha : a < 4294967296) (hb : b < 4294967296) : bits .or .i64 (a : Int) (b : Int) = ((a ||| b : Nat) : Int) := by
  have hx : a ||| b < 2 ^ 32 := Nat.or_lt_two_pow (by omega) (by omega)
  have h1 : (BitVec.ofInt 64 (a : Int)).toNat = a := by
    rw [BitVec.ofInt_natCast, BitVec.toNat_ofNat]; exact Nat.mod_eq_of_lt (by omega)
  have h2 : (BitVec.ofInt 64 (b : Int)).toNat = b := by
    rw [BitVec.ofInt_natCast, BitVec.toNat_ofNat]; exact Nat.mod_eq_of_lt (by omega)
  show IntKind.i64.wrap ((BitVec.ofInt 64 (a : Int) ||| BitVec.ofInt 64 (b : Int)).toNat : Int) = _
  rw [BitVec.toNat_or, h1, h2]
  exact IntWalk.i64_in _ (by omega)
theorem or_first {tos lab : Nat} (ht : tos ≤ 255) (hl : lab ≤ 1048575) : bits .or .i64 (bits .or .i64 1610612736 ((tos : Int) * 1048576)) (lab : Int) = 1610612736 + (tos : Int) * 1048576 + (lab : Int) := by
  have e1 : (1610612736 ||| tos * 1048576) = 1610612736 + tos * 1048576 := by
    have := Nat.two_pow_add_eq_or_of_lt (i := 28) (b := tos * 1048576) (by omega) 6
    simpa using this.symm
  have e2 : ((1610612736 + tos * 1048576) ||| lab) = 1610612736 + tos * 1048576 + lab := by
    have := Nat.two_pow_add_eq_or_of_lt (i := 20) (b := lab) (by omega) (1536 + tos)
    rw [show 2 ^ 20 * (1536 + tos) = 1610612736 + tos * 1048576 by omega] at this
    exact this.symm
  have a1 := bits_or_i64_nat 1610612736 (tos * 1048576) (by omega) (by omega)
  rw [e1] at a1
  have a2 := bits_or_i64_nat (1610612736 + tos * 1048576) lab (by omega) (by omega)
  rw [e2] at a2
  have c1 : (((1610612736 : Nat)) : Int) = 1610612736 := rfl
  have c2 : ((tos * 1048576 : Nat) : Int) = (tos : Int) * 1048576 := by omega
  rw [c1, c2] at a1
  rw [a1, a2]
  omega
set_option maxHeartbeats 4000000 in
theorem putsix_any (w : World) (g c : Nat) (ty : TypeId) (X : Array Value) (h : Ip) (x : IpV X h) (B : List UInt8) (hg : w.heap[g]? = some (.cells (B.map byteV).toArray ty (0, 0))) (hnB : 40 ≤ B.length) (hnc : 40 ≤ c)
    (ht : 0 ≤ h.tos ∧ h.tos ≤ 255) (hp : 0 ≤ h.p ∧ h.p ≤ 255) (htl : 0 ≤ h.ttl ∧ h.ttl ≤ 255) (hlb : 0 ≤ h.lab ∧ h.lab ≤ 1048575) (hs : h.nd ≤ 65535) :
    Calls Tryz.prog 38 #[.slice (some ⟨g, 0, none⟩) 40 c, .agg X] w fun e w' => e = .returned (.tuple #[]) ∧ w'.heap[g]? = some (.cells ((sixB h B).map byteV).toArray ty (0, 0)) ∧ w.grownBy w' (some g) := by
  obtain ⟨W, hW, h1, hz, hb⟩ := one_block w (.cells X 51)
  have hc := x.cells h1
  obtain ⟨tos, htos⟩ : ∃ k : Nat, h.tos = (k : Int) := ⟨h.tos.toNat, by omega⟩
  obtain ⟨p, hpp⟩ : ∃ k : Nat, h.p = (k : Int) := ⟨h.p.toNat, by omega⟩
  obtain ⟨ttl, httl⟩ : ∃ k : Nat, h.ttl = (k : Int) := ⟨h.ttl.toNat, by omega⟩
  obtain ⟨lab, hlab⟩ : ∃ k : Nat, h.lab = (k : Int) := ⟨h.lab.toNat, by omega⟩
  obtain ⟨nd, hnd⟩ : ∃ k : Nat, k = h.nd := ⟨_, rfl⟩
  have hF : sixF h = [(4, 1610612736 + tos * 1048576 + lab), (2, nd), (1, p), (1, ttl)] := by
    unfold sixF
    rw [htos, hpp, httl, hlab, hnd]; simp
  have c5 := hc.c37
  have c10' := hc.c42
  have c8 := hc.c40
  have c4 := hc.c36
  have c3 := hc.c35
  rw [htos] at c5 ht
  rw [hpp] at c3 hp
  rw [httl] at c4 htl
  rw [hlab] at c8 hlb
  rw [← hnd] at c10' hs
  have hF8 : fldOk (sixF h) := by
    rw [hF]
    intro f hf
    simp at hf
    rcases hf with rfl | rfl | rfl | rfl <;> exact ⟨by simp, by simp, by simp; omega, by simp; omega⟩
  have hor := or_first (tos := tos) (lab := lab) (by omega) (by omega)
  obtain ⟨N, hN⟩ : ∃ N : Int, 1610612736 + (tos : Int) * 1048576 + (lab : Int) = N := ⟨_, rfl⟩
  have hNN : N = ((1610612736 + tos * 1048576 + lab : Nat) : Int) := by omega
  rw [hN] at hor
  obtain ⟨S, hS⟩ : ∃ S, S = h.sb := ⟨_, rfl⟩
  obtain ⟨D, hD⟩ : ∃ D, D = h.db := ⟨_, rfl⟩
  obtain ⟨F, hFl⟩ : ∃ F, F = fldB (sixF h) := ⟨_, rfl⟩
  have hFn : F.length = 8 := by rw [hFl, hF]; simp [fldB, length_numBytes]
  have hR : sixB h B = splice (splice (splice B 0 F) 8 S) 24 D := by
    unfold sixB; rw [hS, hD, hFl]
  have HLAY := hide (fun (W : World) => layH_any (W.alloc (.cells #[.int .i64 4, .int .i64 N, .int .i64 2, .int .i64 (nd : Int), .int .i64 1, .int .i64 (p : Int), .int .i64 1, .int .i64 (ttl : Int)] 133)) (some ⟨W.heap.size, 0, none⟩) 4 (sixF h)
    (by rw [heap_size_alloc']; exact Ops.lit W _ _ _ _ (by rw [hF, hNN]; simp [fldF])) hF8 (by rw [hF]; simp))
  rw [← hFl, hFn, show (sixF h).length = 4 by rw [hF]; rfl] at HLAY
  have s4 : S.length = 16 := by rw [hS, x.ls]
  have d4 : D.length = 16 := by rw [hD, x.ld]
  have hB := hide hb
  have hZ := hide hz
  have hG := hide hg
  have H1 := hide h1
  have HR := hide hR
  have HS := hide hS
  have HD := hide hD
  have S4 := hide s4
  have D4 := hide d4
  have F10 := hide hFn
  clear hF hF8 hnd htos hpp httl hlab hR hS hD s4 d4 hFn hFl hN hNN
  have hgw : g < w.heap.size := (Array.getElem?_eq_some_iff.1 hG.out).1
  have HGW := hide hgw
  have hbl : Hid (40 ≤ B.length) := hide hnB
  have HBS := hide (fun (w' : World) (h' : w'.heap[w.heap.size]? = some (.cells X 51 (0, 0))) => And.intro (x.bytS (B := w.heap.size + 1) h' (by omega)) (x.bytD (B := w.heap.size + 1) h' (by omega)))
  rw [← HS.out, ← HD.out] at HBS
  have e8 : ¬ c = 8 := by omega
  have e24 : ¬ c = 24 := by omega
  clear hz hb hc hg h1 hgw hnB
  go_enter Tryz.func38, Tryz.ntmps38
  go_wp2_with fail
  refine (HLAY.out _).mono ?_
  rintro _ w2 ⟨A2, c2, rfl, ho2, hb2⟩
  have k2 : Below W.heap.size W w2 := ((Below.refl _ W).alloc (Nat.le_refl _) _).trans (hb2.mono (by simp))
  have B2 : Below w.heap.size w w2 := hB.out.trans (k2.mono hB.out.size)
  have hX2 := row_kept k2 (by have := hZ.out; omega) H1.out
  have hg2 := (B2.block g HGW.out).trans hG.out
  have by2 : Byt w2 w2.heap.size A2 F := by
    obtain ⟨A', c', e, _, hb, _⟩ := ho2.shape
    injection e with e1 e2 e3
    subst e1
    exact hb
  have G2 := hide hg2
  have Y2 := hide by2
  have X2 := hide hX2
  have R2 := hide (Below.row B2 (some g))
  clear k2 B2 hX2 hg2 by2 ho2 hb2 c3 c4 c5 c8 c10'
  have l1 : 8 ≤ 40 := by omega
  have l2 : 0 + 8 ≤ B.length := by have := hbl.out; omega
  dsimp only
  go_wp2_with (with_reducible refine wpList_copy_bytes rfl (.tmp 4) (.tmp 24) rfl g 0 40 c A2 8 c2 B F w2.heap.size ty rfl rfl F10.out G2.out Y2.out l1 l2 ?_)
  intro w3 hg3 hgr3
  have R3 := hide (grown_trans R2.out hgr3)
  have XL : Hid (w.heap.size < w3.heap.size) := hide (by have := hgr3.size; have := (Array.getElem?_eq_some_iff.1 X2.out).1; omega)
  have X3 := hide ((hgr3.block w.heap.size (by have := R2.out.size; have := (Array.getElem?_eq_some_iff.1 X2.out).1; omega) (by have := HGW.out; simp; omega)).trans X2.out)
  have G3 := hide hg3
  clear hg3 hgr3
  obtain ⟨B1, hB1⟩ : ∃ B', B' = splice B 0 F := ⟨_, rfl⟩
  rw [← hB1] at G3
  have L1 : Hid (B1.length = B.length) := hide (by rw [hB1, length_splice _ _ _ (by rw [F10.out]; have := hbl.out; omega)])
  rw [← hB1] at HR
  clear hB1
  go_wp2
  go_region_law (refine step_copy_bytes rfl (.tmp 27) (.tmp 30) rfl g 8 (some ⟨g, 8, none⟩) 32 (c - 8) (some ⟨w.heap.size, 2, none⟩) 16 16 B1 S (w.heap.size + 1) ty (by rfl) (fun _ => rfl) (by rfl) S4.out G3.out (HBS.out w3 X3.out).1 (by omega) (by rw [L1.out]; have := hbl.out; omega) ?_; intro w4 hg4 hgr4)
  have R4 := hide (grown_trans R3.out (⟨hgr4.os, hgr4.tape, hgr4.output, hgr4.size, hgr4.block⟩ : w3.grownBy w4 (some g)))
  have X4 := hide ((hgr4.block w.heap.size XL.out (by have := HGW.out; simp; omega)).trans X3.out)
  have G4 := hide hg4
  obtain ⟨B2, hB2⟩ : ∃ B', B' = splice B1 8 S := ⟨_, rfl⟩
  rw [← hB2] at G4
  have L2 : Hid (B2.length = B.length) := hide (by rw [hB2, length_splice _ _ _ (by rw [S4.out, L1.out]; have := hbl.out; omega), L1.out])
  rw [← hB2] at HR
  clear hB2 hg4 hgr4
  go_wp2
  go_region_law (refine step_copy_bytes rfl (.tmp 33) (.tmp 36) rfl g 24 (some ⟨g, 24, none⟩) 16 (c - 24) (some ⟨w.heap.size, 19, none⟩) 16 16 B2 D (w.heap.size + 1) ty (by rfl) (fun _ => rfl) (by rfl) D4.out G4.out (HBS.out w4 X4.out).2 (by omega) (by rw [L2.out]; have := hbl.out; omega) ?_; intro w5 hg5 hgr5)
  have R5 := hide (grown_trans R4.out (⟨hgr5.os, hgr5.tape, hgr5.output, hgr5.size, hgr5.block⟩ : w4.grownBy w5 (some g)))
  have hfin : w5.heap[g]? = some (.cells ((sixB h B).map byteV).toArray ty (0, 0)) := by rw [HR.out]; exact hg5
  have H9 := hide hfin
  clear hfin hg5 hgr5
  go_wp2
  go_end0
  exact ⟨rfl, H9.out, R5.out⟩
end Go.Proofs.YtihakjcccbionaaGreatDoor

end
section
/-
  The walk of header.Put.
-/
namespace Go.Proofs.YtihakjcccbionaaGreatDoor
open Go.RowKit
attribute [local go_sem ↓] exec_span exec_put exec_build heap_alloc_new heap_old
attribute [local go_sem] spanQ_ptr spanC_some heap_of_drew heap_of_drewN rs_arr rs_ad rs_ip rs_rip putAt_ptr putOk_ptr oldOk_some built_none World.setRow_alloc_new
set_option maxRecDepth 100000
set_option linter.unusedVariables false
set_option linter.unusedSimpArgs false

/-- how long its head is, as a number of bytes. -/
def sizeN (h : Ip) : Nat := if h.v then 40 else 20 + h.no
theorem sizeH_nat (h : Ip) : sizeH h = (sizeN h : Int) := by unfold sizeH sizeN; split <;> simp
def zerB (n : Nat) : List UInt8 := List.replicate n 0
/-- the error of Put, and its bytes. -/
def pktE (h : Ip) : Int := if rightH h = true then (if 65535 < sizeN h + h.nd then 3 else 0) else 1
def pktB (h : Ip) (O D : List UInt8) : List UInt8 :=
  if pktE h = 0 then splice (if h.v then sixB h (zerB (sizeN h + h.nd)) else fourB h (zerB (sizeN h + h.nd)) O (sizeN h)) (sizeN h) D else []
theorem right_facts {h : Ip} (hr : rightH h = true) : (0 ≤ h.p ∧ h.p ≤ 255) ∧ (0 ≤ h.ttl ∧ h.ttl ≤ 255) ∧ (0 ≤ h.tos ∧ h.tos ≤ 255) ∧ (h.v = true → 0 ≤ h.lab ∧ h.lab ≤ 1048575) ∧ (h.v = false → (0 ≤ h.id ∧ h.id ≤ 65535) ∧ h.no ≤ 40 ∧ h.no % 4 = 0) := by
  unfold rightH upS at hr
  cases hv : h.v <;> simp [hv] at hr <;> simp <;> omega
theorem zerB_made (n : Nat) : madeCells #[.int .u8 0] n = ((zerB n).map byteV).toArray := by
  apply Array.toList_inj.1
  rw [toList_madeCells_one, zerB, List.map_replicate]; rfl

theorem length_sixB {h : Ip} {B : List UInt8} (ls : h.sb.length = 16) (ld : h.db.length = 16) (hB : 40 ≤ B.length) : (sixB h B).length = B.length := by
  have hF : (fldB (sixF h)).length = 8 := by unfold sixF; simp [fldB, length_numBytes]
  unfold sixB
  have e1 : (splice B 0 (fldB (sixF h))).length = B.length := length_splice _ _ _ (by omega)
  have e2 : (splice (splice B 0 (fldB (sixF h))) 8 h.sb).length = B.length := by rw [length_splice _ _ _ (by omega), e1]
  rw [length_splice _ _ _ (by omega), e2]
theorem length_four1 {h : Ip} {B O : List UInt8} {n : Nat} (ls : h.sb.length = 16) (ld : h.db.length = 16) (hB : 20 + O.length ≤ B.length) : (four1 h B O n).length = B.length := by
  have hF : (fldB (fourF h n)).length = 10 := by unfold fourF; simp [fldB, length_numBytes]
  have h4 : (h.sb.take 4).length = 4 := by simp [ls]
  have h5 : (h.db.take 4).length = 4 := by simp [ld]
  unfold four1
  have e1 : (splice B 0 (fldB (fourF h n))).length = B.length := length_splice _ _ _ (by omega)
  have e2 : (splice (splice B 0 (fldB (fourF h n))) 12 (h.sb.take 4)).length = B.length := by rw [length_splice _ _ _ (by omega), e1]
  have e3 : (splice (splice (splice B 0 (fldB (fourF h n))) 12 (h.sb.take 4)) 16 (h.db.take 4)).length = B.length := by rw [length_splice _ _ _ (by omega), e2]
  rw [length_splice _ _ _ (by omega), e3]
theorem length_fourB {h : Ip} {B O : List UInt8} {n : Nat} (ls : h.sb.length = 16) (ld : h.db.length = 16) (hB : 20 + O.length ≤ B.length) : (fourB h B O n).length = B.length := by
  have e := length_four1 (n := n) ls ld hB
  unfold fourB
  rw [length_splice _ _ _ (by rw [length_numBytes]; omega), e]

set_option maxHeartbeats 4000000 in
theorem putH_any (w : World) (X : Array Value) (h : Ip) (x : IpV X h) (O D : List UInt8) (hO : Byt w w.heap.size h.ao O) (hOl : O.length = h.no) (hD : Byt w w.heap.size h.ad D) (hDl : D.length = h.nd) (hn : h.no ≤ 140737488355328) (hnd : h.nd ≤ 140737488355328) :
    Calls Tryz.prog 17 #[.agg X] w fun e w' => ∃ A c, e = .returned (.tuple #[.slice A (pktB h O D).length c, .int .i64 (pktE h)]) ∧ OwnB w' w.heap.size (.slice A (pktB h O D).length c) (pktB h O D) ∧ Below w.heap.size w w' := by
  have hxs := x.size
  have hxr := x.x0
  obtain ⟨W, hW, h1, hz, hb⟩ := one_block w (.cells X 51)
  have KR := hide (fun W => rightH_any W X h x hn)
  have KS := hide (fun W => sizeh_any W X h x hn)
  obtain ⟨S, hS⟩ : ∃ S, S = sizeN h := ⟨_, rfl⟩
  have hSb : S ≤ 140737488355400 := by rw [hS]; unfold sizeN; split <;> omega
  rw [sizeH_nat, ← hS] at KS
  obtain ⟨R, hR⟩ : ∃ R, R = rightH h := ⟨_, rfl⟩
  rw [← hR] at KR
  obtain ⟨nd, hndd⟩ : ∃ k, k = h.nd := ⟨_, rfl⟩
  obtain ⟨v, hv⟩ : ∃ v, v = h.v := ⟨_, rfl⟩
  have HC : Hid (∀ w', Below W.heap.size W w' → w'.heap[w.heap.size]? = some (.cells X 51 (0, 0)) ∧ w'.cell? ⟨w.heap.size, 0, none⟩ = some (.bool v) ∧ w'.cell? ⟨w.heap.size, 42, none⟩ = some (.slice h.ad nd h.cd)) := hide (fun w' hb' => by
    have hr := row_kept hb' (by omega) h1
    rw [hv, hndd]
    exact ⟨hr, (x.cells hr).c0, (x.cells hr).c42⟩)
  rw [← hndd] at hnd
  have hB := hide hb
  have hZ := hide hz
  have HR := hide hR
  have HS := hide hS
  have HND := hide hndd
  have HV := hide hv
  have HO := hide hO
  have HD := hide hD
  have HOl := hide hOl
  have HDl := hide hDl
  obtain ⟨g0, k0, k42⟩ := HC.out W (Below.refl _ _)
  clear hb hz hR hS hndd hv hO hD hOl hDl h1
  subst hW
  cases R
  · have hE := hide (show pktE h = 1 by unfold pktE; rw [← HR.out]; rfl)
    have hBb := hide (show pktB h O D = [] by unfold pktB; rw [hE.out]; rfl)
    go_enter Tryz.func17, Tryz.ntmps17
    go_wp2_with fail
    refine (KR.out _).mono ?_
    rintro e w1 ⟨rfl, hb1⟩
    have B1 := hide hb1
    clear hb1
    go_wp2_with fail
    go_ret2
    rw [hE.out, hBb.out]
    exact ⟨none, 0, rfl, OwnB.nil _ _, hB.out.trans (B1.out.mono hB.out.size)⟩
  · have hrf := right_facts HR.out.symm
    obtain ⟨T, hT⟩ : ∃ T : Nat, T = S + nd := ⟨_, rfl⟩
    have hws : IntKind.i64.wrap ((S : Int) + (nd : Int)) = (T : Int) := by rw [IntWalk.i64_in _ (by omega)]; omega
    have HT := hide hT
    have hRf := hide hrf
    clear hT hrf
    by_cases hbig : 65535 < T
    · have hbI : (65535 : Int) < (T : Int) := by omega
      have hE := hide (show pktE h = 3 by unfold pktE; rw [if_pos HR.out.symm, if_pos (by rw [← HND.out, ← HS.out, ← HT.out]; exact hbig)])
      have hBb := hide (show pktB h O D = [] by unfold pktB; rw [hE.out]; rfl)
      go_enter Tryz.func17, Tryz.ntmps17
      go_wp2_with fail
      refine (KR.out _).mono ?_
      rintro e w1 ⟨rfl, hb1⟩
      have B1 := hide hb1
      obtain ⟨g1, k10, k142⟩ := HC.out w1 hb1
      have HH := hide (And.intro g1 (And.intro k10 k142))
      clear hb1 g1 k10 k142
      go_wp2_with fail
      go_region_held3 (fun w' => w'.heap[w.heap.size]? = some (.cells X 51 (0, 0)) ∧ w'.cell? ⟨w.heap.size, 0, none⟩ = some (.bool v) ∧ w'.cell? ⟨w.heap.size, 42, none⟩ = some (.slice h.ad nd h.cd))
        (first | exact HH.out | assumption)
        (first
          | (go_at_call 37; (with_reducible refine (KS.out _).mono ?_); rintro e w2 ⟨rfl, hb2⟩; have B2 := hide (B1.out.trans ((below_undrew' hb2).mono B1.out.size)); have HR2 := HC.out w2 B2.out))
      clear HR2 hb2
      go_wp2_with fail
      go_ret2
      rw [hE.out, hBb.out]
      exact ⟨none, 0, rfl, OwnB.nil _ _, hB.out.trans (B2.out.mono hB.out.size)⟩
    · have hbI : ¬ (65535 : Int) < (T : Int) := by omega
      have hE := hide (show pktE h = 0 by unfold pktE; rw [if_pos HR.out.symm, if_neg (by rw [← HND.out, ← HS.out, ← HT.out]; exact hbig)])
      have hmk := fun W => make_bytes W T (by omega)
      rw [zerB_made] at hmk
      have hST : S ≤ T := by have := HT.out; omega
      have hSTi : (S : Int) ≤ (T : Int) := by omega
      go_enter Tryz.func17, Tryz.ntmps17
      go_wp2_with fail
      refine (KR.out _).mono ?_
      rintro e w1 ⟨rfl, hb1⟩
      have B1 := hide hb1
      obtain ⟨g1, k10, k142⟩ := HC.out w1 hb1
      have HH := hide (And.intro g1 (And.intro k10 k142))
      clear hb1 g1 k10 k142
      go_wp2_with fail
      go_region_held3 (fun w' => w'.heap[w.heap.size]? = some (.cells X 51 (0, 0)) ∧ w'.cell? ⟨w.heap.size, 0, none⟩ = some (.bool v) ∧ w'.cell? ⟨w.heap.size, 42, none⟩ = some (.slice h.ad nd h.cd))
        (first | exact HH.out | assumption)
        (first
          | (go_at_call 37; (with_reducible refine (KS.out _).mono ?_); rintro e w2 ⟨rfl, hb2⟩; have B2 := hide (B1.out.trans ((below_undrew' hb2).mono B1.out.size)); have HR2 := HC.out w2 B2.out))
      have HR2 := hide HR2
      clear hb2
      obtain ⟨W3, hW3⟩ : ∃ W3, W3 = w2.alloc (.cells ((zerB T).map byteV).toArray 5) := ⟨_, rfl⟩
      have B3 := hide (show Below (w.alloc (.cells X 51)).heap.size (w.alloc (.cells X 51)) W3 by rw [hW3]; exact B2.out.alloc B2.out.size _)
      have g3 : W3.heap[w2.heap.size]? = some (.cells ((zerB T).map byteV).toArray 5 (0, 0)) := by rw [hW3]; exact heap_alloc_new w2 _
      have G3 := hide g3
      have h30 := (HC.out W3 B3.out).2.1
      rw [hW3] at h30
      clear g3
      obtain ⟨g, hg⟩ : ∃ g, g = w2.heap.size := ⟨_, rfl⟩
      have HG := hide hg
      obtain ⟨PB, hPB⟩ : ∃ PB, PB = if h.v then sixB h (zerB (sizeN h + h.nd)) else fourB h (zerB (sizeN h + h.nd)) O (sizeN h) := ⟨_, rfl⟩
      have hTT : sizeN h + h.nd = T := by rw [← HS.out, ← HND.out, ← HT.out]
      have HPL : Hid (PB.length = T) := hide (by
        rw [hPB, hTT]
        have hz : (zerB T).length = T := by simp [zerB]
        have hsz := HS.out
        unfold sizeN at hsz
        split at hsz
        · rename_i hv; rw [if_pos hv, length_sixB x.ls x.ld (by rw [hz]; omega), hz]
        · rename_i hv; rw [if_neg hv, length_fourB x.ls x.ld (by rw [hz, HOl.out]; omega), hz])
      have HPB : Hid (pktB h O D = splice PB S D) := hide (by unfold pktB; rw [if_pos hE.out, ← hPB, ← HS.out])
      have KP : Hid (∀ W4 : World, Below w.heap.size w W4 → W4.heap[g]? = some (.cells ((zerB T).map byteV).toArray 5 (0, 0)) → Calls Tryz.prog (if v then 38 else 39) #[.slice (some ⟨g, 0, none⟩) S T, .agg X] W4 fun e w' => e = .returned (.tuple #[]) ∧ w'.heap[g]? = some (.cells (PB.map byteV).toArray 5 (0, 0)) ∧ W4.grownBy w' (some g)) := hide (fun W4 hb4 hg4 => by
        obtain ⟨f1, f2, f3, f4, f5⟩ := hRf.out
        have hz : (zerB T).length = T := by simp [zerB]
        rw [hPB, hTT]
        have hsz := HS.out
        have hnd' := HND.out
        have ht := HT.out
        have hgb : w.heap.size ≤ g := by rw [HG.out]; exact Nat.le_trans hB.out.size B2.out.size
        rw [HV.out]
        unfold sizeN at hsz
        cases hv : h.v
        · simp only [hv] at hsz
          obtain ⟨i1, i2, i3⟩ := f5 hv
          have hs' : S = 20 + h.no := by simpa using hsz
          rw [← HS.out]
          exact putfour_any W4 g S T 5 X h x (zerB T) O hg4 hs' (by rw [hz]; omega) (by omega) f3 f1 f2 i1 i2 i3 (by omega) ((HO.out.keep fun p hp => hb4.cell hp).more hgb) HOl.out
        · simp only [hv] at hsz
          have hs' : S = 40 := by simpa using hsz
          rw [hs']
          exact putsix_any W4 g T 5 X h x (zerB T) hg4 (by rw [hz]; omega) (by omega) f3 f1 f2 (f4 hv) (by omega))
      rw [← hg] at G3
      clear hPB hTT hg
      cases v
      · have KQ : Hid (∀ W4 : World, Below w.heap.size w W4 → W4.heap[g]? = some (.cells ((zerB T).map byteV).toArray 5 (0, 0)) → Calls Tryz.prog 39 #[.slice (some ⟨g, 0, none⟩) S T, .agg X] W4 fun e w' => e = .returned (.tuple #[]) ∧ w'.heap[g]? = some (.cells (PB.map byteV).toArray 5 (0, 0)) ∧ W4.grownBy w' (some g)) := KP
        go_wp2_with fail
        rw [← hW3, ← HG.out]
        have HH3 := hide (HC.out W3 B3.out)
        have R3 : Hid (W3.heap.size = w2.heap.size + 1) := hide (by rw [hW3]; simp)
        clear hW3 h30 KP
        go_region_held3 (fun w' => w'.heap[w.heap.size]? = some (.cells X 51 (0, 0)))
          (first | exact HH3.out.1 | assumption)
          (first
            | (go_at_call 37; (with_reducible refine (KS.out _).mono ?_); rintro e w4 ⟨rfl, hb4⟩; have q4 : Hid (Below W3.heap.size W3 w4) := hide (below_undrew' hb4); have B4 := hide (B3.out.trans (q4.out.mono B3.out.size)); have HR4 := (HC.out w4 B4.out).1; have G4 := hide (row_kept q4.out (by have := R3.out; have := HG.out; omega) G3.out))
            | (go_at_call 39; (refine (KQ.out _ (hB.out.trans (B4.out.mono hB.out.size)) G4.out).mono ?_); rintro e w5 ⟨rfl, hg5, hgr5⟩; have G5 := hide hg5; have R5 := hide hgr5; have HR5 := (R5.out.block w.heap.size (by have := hB.out; have := B4.out.size; have := hZ.out; omega) (by have := HG.out; have := B2.out.size; have := hZ.out; simp; omega)).trans HR4))
        obtain ⟨b5, k542⟩ := And.intro ((hB.out.trans (B4.out.mono hB.out.size)).grown R5.out (Nat.le_trans hB.out.size B4.out.size) (fun k hk => by cases hk; have := HG.out; have := B2.out.size; have := hB.out.size; omega)) (x.cells HR5).c42
        rw [← HND.out] at k542
        have B5 := hide b5
        have HR5' := hide HR5
        have hl5 : w5.heap.size ≥ g + 1 := (Array.getElem?_eq_some_iff.1 G5.out).1
        have HL5 : Hid (g < w5.heap.size) := hide hl5
        have HXL : Hid (w.heap.size < w5.heap.size) := hide (Array.getElem?_eq_some_iff.1 HR5).1
        obtain ⟨dp, hdp⟩ : ∃ d, (if T = S then some (⟨g, 0, none⟩ : Addr) else some ⟨g, S, none⟩) = d := ⟨_, rfl⟩
        have HDP : Hid (0 < nd → dp = some ⟨g, S, none⟩) := hide (fun hp => by rw [← hdp, if_neg (by have := HT.out; omega)])
        clear hg5 hgr5 HR4 hb4 b5 HR5 hl5
        have d5 : w5.drew.heap[w.heap.size]? = some (.cells X 51 (0, 0)) := HR5'.out
        have d542 : w5.drew.cell? ⟨w.heap.size, 42, none⟩ = some (.slice h.ad nd h.cd) := k542
        go_wp2_with fail
        go_region_law (first
          | (go_simp; go_at_call 37; refine (KS.out _).mono ?_; rintro e w6 ⟨rfl, hb6⟩
             have q6 : Hid (Below w5.heap.size w5 w6) := hide (below_undrew' hb6)
             have r6 := row_kept q6.out HXL.out HR5'.out
             have k642 := (x.cells r6).c42
             rw [← HND.out] at k642
             have G6 := hide (row_kept q6.out HL5.out G5.out)
             have D6 := hide ((HD.out.keep fun p hp => B5.out.cell hp).keep fun p hp => (q6.out.mono B5.out.size).cell hp))
          | (refine step_copy_bytes rfl (.tmp 36) (.tmp 38) rfl g S dp (T - S) (T - S) h.ad nd h.cd PB D w.heap.size 5 (by rfl) HDP.out (by rfl) (HDl.out.trans HND.out.symm) G6.out D6.out (by have := HT.out; omega) (by rw [HPL.out, HT.out]; exact Nat.le_refl _) ?_; intro w7 hg7 hgr7)
          | fail)
        all_goals (
          have hown : OwnB w7 w.heap.size (.slice (some ⟨g, 0, none⟩) (pktB h O D).length T) (pktB h O D) := by
            have hl : (splice PB S D).length = T := by rw [length_splice _ _ _ (by rw [HPL.out, HDl.out, ← HND.out]; have := HT.out; omega), HPL.out]
            rw [HPB.out]
            refine ⟨by simp, .inr ⟨g, T, _, rfl, by rw [HG.out]; exact Nat.le_trans hB.out.size B2.out.size, hg7, by omega, by unfold maxLen; omega, by simp [hl], ?_⟩⟩
            rw [Nat.mul_one]
            exact List.take_of_length_le (by simp)
          have hb7 : Below w.heap.size w w7 := (B5.out.trans (q6.out.mono B5.out.size)).grown hgr7 (Nat.le_trans B5.out.size q6.out.size) (fun k hk => by cases hk; rw [HG.out]; exact Nat.le_trans hB.out.size B2.out.size)
          have hlen : Hid ((pktB h O D).length = T) := hide (by rw [HPB.out, length_splice _ _ _ (by rw [HPL.out, HDl.out, ← HND.out]; have := HT.out; omega), HPL.out])
          rw [hlen.out] at hown
          have HW7 := hide hown
          have HB7 := hide hb7
          clear hown hb7 hg7 hgr7 r6 k642 hb6 d5 d542
          go_wp2_with fail
          go_ret2
          rw [hE.out]
          exact ⟨some ⟨g, 0, none⟩, T, by rw [hlen.out]; rfl, by rw [hlen.out]; exact HW7.out, HB7.out⟩)
      · have KQ : Hid (∀ W4 : World, Below w.heap.size w W4 → W4.heap[g]? = some (.cells ((zerB T).map byteV).toArray 5 (0, 0)) → Calls Tryz.prog 38 #[.slice (some ⟨g, 0, none⟩) S T, .agg X] W4 fun e w' => e = .returned (.tuple #[]) ∧ w'.heap[g]? = some (.cells (PB.map byteV).toArray 5 (0, 0)) ∧ W4.grownBy w' (some g)) := KP
        go_wp2_with fail
        rw [← hW3, ← HG.out]
        have HH3 := hide (HC.out W3 B3.out)
        have R3 : Hid (W3.heap.size = w2.heap.size + 1) := hide (by rw [hW3]; simp)
        clear hW3 h30 KP
        go_region_held3 (fun w' => w'.heap[w.heap.size]? = some (.cells X 51 (0, 0)))
          (first | exact HH3.out.1 | assumption)
          (first
            | (go_at_call 37; (with_reducible refine (KS.out _).mono ?_); rintro e w4 ⟨rfl, hb4⟩; have q4 : Hid (Below W3.heap.size W3 w4) := hide (below_undrew' hb4); have B4 := hide (B3.out.trans (q4.out.mono B3.out.size)); have HR4 := (HC.out w4 B4.out).1; have G4 := hide (row_kept q4.out (by have := R3.out; have := HG.out; omega) G3.out))
            | (go_at_call 38; (refine (KQ.out _ (hB.out.trans (B4.out.mono hB.out.size)) G4.out).mono ?_); rintro e w5 ⟨rfl, hg5, hgr5⟩; have G5 := hide hg5; have R5 := hide hgr5; have HR5 := (R5.out.block w.heap.size (by have := hB.out; have := B4.out.size; have := hZ.out; omega) (by have := HG.out; have := B2.out.size; have := hZ.out; simp; omega)).trans HR4))
        obtain ⟨b5, k542⟩ := And.intro ((hB.out.trans (B4.out.mono hB.out.size)).grown R5.out (Nat.le_trans hB.out.size B4.out.size) (fun k hk => by cases hk; have := HG.out; have := B2.out.size; have := hB.out.size; omega)) (x.cells HR5).c42
        rw [← HND.out] at k542
        have B5 := hide b5
        have HR5' := hide HR5
        have hl5 : w5.heap.size ≥ g + 1 := (Array.getElem?_eq_some_iff.1 G5.out).1
        have HL5 : Hid (g < w5.heap.size) := hide hl5
        have HXL : Hid (w.heap.size < w5.heap.size) := hide (Array.getElem?_eq_some_iff.1 HR5).1
        obtain ⟨dp, hdp⟩ : ∃ d, (if T = S then some (⟨g, 0, none⟩ : Addr) else some ⟨g, S, none⟩) = d := ⟨_, rfl⟩
        have HDP : Hid (0 < nd → dp = some ⟨g, S, none⟩) := hide (fun hp => by rw [← hdp, if_neg (by have := HT.out; omega)])
        clear hg5 hgr5 HR4 hb4 b5 HR5 hl5
        have d5 : w5.drew.heap[w.heap.size]? = some (.cells X 51 (0, 0)) := HR5'.out
        have d542 : w5.drew.cell? ⟨w.heap.size, 42, none⟩ = some (.slice h.ad nd h.cd) := k542
        go_wp2_with fail
        go_region_law (first
          | (go_simp; go_at_call 37; refine (KS.out _).mono ?_; rintro e w6 ⟨rfl, hb6⟩
             have q6 : Hid (Below w5.heap.size w5 w6) := hide (below_undrew' hb6)
             have r6 := row_kept q6.out HXL.out HR5'.out
             have k642 := (x.cells r6).c42
             rw [← HND.out] at k642
             have G6 := hide (row_kept q6.out HL5.out G5.out)
             have D6 := hide ((HD.out.keep fun p hp => B5.out.cell hp).keep fun p hp => (q6.out.mono B5.out.size).cell hp))
          | (refine step_copy_bytes rfl (.tmp 36) (.tmp 38) rfl g S dp (T - S) (T - S) h.ad nd h.cd PB D w.heap.size 5 (by rfl) HDP.out (by rfl) (HDl.out.trans HND.out.symm) G6.out D6.out (by have := HT.out; omega) (by rw [HPL.out, HT.out]; exact Nat.le_refl _) ?_; intro w7 hg7 hgr7)
          | fail)
        all_goals (
          have hown : OwnB w7 w.heap.size (.slice (some ⟨g, 0, none⟩) (pktB h O D).length T) (pktB h O D) := by
            have hl : (splice PB S D).length = T := by rw [length_splice _ _ _ (by rw [HPL.out, HDl.out, ← HND.out]; have := HT.out; omega), HPL.out]
            rw [HPB.out]
            refine ⟨by simp, .inr ⟨g, T, _, rfl, by rw [HG.out]; exact Nat.le_trans hB.out.size B2.out.size, hg7, by omega, by unfold maxLen; omega, by simp [hl], ?_⟩⟩
            rw [Nat.mul_one]
            exact List.take_of_length_le (by simp)
          have hb7 : Below w.heap.size w w7 := (B5.out.trans (q6.out.mono B5.out.size)).grown hgr7 (Nat.le_trans B5.out.size q6.out.size) (fun k hk => by cases hk; rw [HG.out]; exact Nat.le_trans hB.out.size B2.out.size)
          have hlen : Hid ((pktB h O D).length = T) := hide (by rw [HPB.out, length_splice _ _ _ (by rw [HPL.out, HDl.out, ← HND.out]; have := HT.out; omega), HPL.out])
          rw [hlen.out] at hown
          have HW7 := hide hown
          have HB7 := hide hb7
          clear hown hb7 hg7 hgr7 r6 k642 hb6 d5 d542
          go_wp2_with fail
          go_ret2
          rw [hE.out]
          exact ⟨some ⟨g, 0, none⟩, T, by rw [hlen.out]; rfl, by rw [hlen.out]; exact HW7.out, HB7.out⟩)
end Go.Proofs.YtihakjcccbionaaGreatDoor

end
