/-
  The walk of header.putFour.
-/
import Derived.Test.YtcagdcjikbkapaaIh
namespace Go.Proofs.Ytcagdcjikbkapaa
open Go.RowKit
set_option maxRecDepth 100000
set_option linter.unusedVariables false
set_option linter.unusedSimpArgs false

/-- the numbers of a head of four, but for its sum. -/
def fourF (h : Ip) (n : Nat) : List (Nat × Nat) := [(1, 64 + n / 4), (1, h.tos.toNat), (2, n + h.nd), (2, h.id.toNat), (2, if h.df then 16384 else 0), (1, h.ttl.toNat), (1, h.p.toNat)]
def four1 (h : Ip) (B O : List UInt8) (n : Nat) : List UInt8 := splice (splice (splice (splice B 0 (fldB (fourF h n))) 12 (h.sb.take 4)) 16 (h.db.take 4)) 20 O
/-- what putFour makes of the bytes of a row, of which the first n are the head. -/
def fourB (h : Ip) (B O : List UInt8) (n : Nat) : List UInt8 := splice (four1 h B O n) 10 (numBytes (headS ((four1 h B O n).take n)) 2 2)

theorem Byt.front {w : World} {B : Nat} {A : Option Addr} {l : List UInt8} (h : Byt w B A l) (k : Nat) : Byt w B A (l.take k) := fun hp => by
  obtain ⟨b, off, e, hB, hc⟩ := h (by simp at hp; omega)
  exact ⟨b, off, e, hB, fun i hi => by rw [hc i (by simp at hi; omega)]; simp⟩
theorem or64 : ∀ {q : Nat}, q < 64 → bits BinOp.or IntKind.i64 64 (q : Int) = 64 + (q : Int) := by decide
theorem heap_size_alloc' (w : World) (o : Obj) : (w.alloc o).heap.size = w.heap.size + 1 := by simp
set_option maxHeartbeats 4000000 in
theorem putfour_any (w : World) (g n c : Nat) (ty : TypeId) (X : Array Value) (h : Ip) (x : IpV X h) (B O : List UInt8) (hg : w.heap[g]? = some (.cells (B.map byteV).toArray ty (0, 0))) (hn : n = 20 + h.no) (hnB : n ≤ B.length) (hnc : n ≤ c)
    (ht : 0 ≤ h.tos ∧ h.tos ≤ 255) (hp : 0 ≤ h.p ∧ h.p ≤ 255) (htl : 0 ≤ h.ttl ∧ h.ttl ≤ 255) (hid : 0 ≤ h.id ∧ h.id ≤ 65535) (h40 : h.no ≤ 40) (h4 : h.no % 4 = 0) (hs : n + h.nd ≤ 65535) (hO : Byt w g h.ao O) (hOl : O.length = h.no) :
    Calls Try.prog 78 #[.slice (some ⟨g, 0, none⟩) n c, .agg X] w fun e w' => e = .returned (.tuple #[]) ∧ w'.heap[g]? = some (.cells ((fourB h B O n).map byteV).toArray ty (0, 0)) ∧ w.grownBy w' (some g) := by
  obtain ⟨W, hW, h1, hz, hb⟩ := one_block w (.cells X 36)
  have hc := x.cells h1
  obtain ⟨tos, htos⟩ : ∃ k : Nat, h.tos = (k : Int) := ⟨h.tos.toNat, by omega⟩
  obtain ⟨p, hpp⟩ : ∃ k : Nat, h.p = (k : Int) := ⟨h.p.toNat, by omega⟩
  obtain ⟨ttl, httl⟩ : ∃ k : Nat, h.ttl = (k : Int) := ⟨h.ttl.toNat, by omega⟩
  obtain ⟨id, hidd⟩ : ∃ k : Nat, h.id = (k : Int) := ⟨h.id.toNat, by omega⟩
  obtain ⟨nd, hnd⟩ : ∃ k : Nat, k = h.nd := ⟨_, rfl⟩
  obtain ⟨no, hno⟩ : ∃ k : Nat, k = h.no := ⟨_, rfl⟩
  obtain ⟨df, hdf⟩ : ∃ v, v = h.df := ⟨_, rfl⟩
  obtain ⟨q, hq⟩ : ∃ k : Nat, k = n / 4 := ⟨_, rfl⟩
  obtain ⟨part, hpart⟩ : ∃ k : Nat, k = if df then 16384 else 0 := ⟨_, rfl⟩
  obtain ⟨pv, hpv⟩ : ∃ v : Int, v = if df then 16384 else 0 := ⟨_, rfl⟩
  have hpvp : (part : Int) = pv := by rw [hpart, hpv]; split <;> rfl
  have hF : fourF h n = [(1, 64 + q), (1, tos), (2, n + nd), (2, id), (2, part), (1, ttl), (1, p)] := by
    unfold fourF
    rw [htos, hpp, httl, hidd, hnd, hpart, hdf, hq]; simp
  have c7 := hc.c39
  have c5 := hc.c37
  have c10' := hc.c42
  have c9 := hc.c41
  have c6 := hc.c38
  have c4 := hc.c36
  have c3 := hc.c35
  rw [htos] at c5 ht
  rw [hpp] at c3 hp
  rw [httl] at c4 htl
  rw [hidd] at c6 hid
  rw [← hdf] at c7
  rw [← hnd] at c10' hs
  rw [← hno] at c9 hn h40 h4 hOl
  have hF8 : fldOk (fourF h n) := by
    rw [hF]
    intro f hf
    simp at hf
    have hpt : part ≤ 16384 := by rw [hpart]; split <;> omega
    rcases hf with rfl | rfl | rfl | rfl | rfl | rfl | rfl <;> exact ⟨by simp, by simp, by simp; omega, by simp; omega⟩
  have hqi : (n : Int) / 4 = (q : Int) := by omega
  have hq64 : q < 64 := by omega
  have hor := or64 hq64
  have s4 : (h.sb.take 4).length = 4 := by simp [x.ls]
  have d4 : (h.db.take 4).length = 4 := by simp [x.ld]
  obtain ⟨S, hS⟩ : ∃ S, S = h.sb.take 4 := ⟨_, rfl⟩
  obtain ⟨D, hD⟩ : ∃ D, D = h.db.take 4 := ⟨_, rfl⟩
  obtain ⟨F, hFl⟩ : ∃ F, F = fldB (fourF h n) := ⟨_, rfl⟩
  have hFn : F.length = 10 := by rw [hFl, hF]; simp [fldB, length_numBytes]
  have hR : fourB h B O n = splice (splice (splice (splice (splice B 0 F) 12 S) 16 D) 20 O) 10 (numBytes (headS ((splice (splice (splice (splice B 0 F) 12 S) 16 D) 20 O).take n)) 2 2) := by
    unfold fourB four1; rw [hS, hD, hFl]
  have HLAY := hide (fun (W : World) => layH_any (W.alloc (.cells #[.int .i64 1, .int .i64 (64 + (q : Int)), .int .i64 1, .int .i64 (tos : Int), .int .i64 2, .int .i64 ((n : Int) + (nd : Int)), .int .i64 2, .int .i64 (id : Int), .int .i64 2, .int .i64 pv, .int .i64 1, .int .i64 (ttl : Int), .int .i64 1, .int .i64 (p : Int)] 150)) (some ⟨W.heap.size, 0, none⟩) 7 (fourF h n)
    (by rw [heap_size_alloc']; exact Ops.lit W _ _ _ _ (by rw [hF]; simp [fldF, hpvp])) hF8 (by rw [hF]; simp))
  rw [← hFl, hFn, show (fourF h n).length = 7 by rw [hF]; rfl] at HLAY
  rw [← hS] at s4
  rw [← hD] at d4
  have hB := hide hb
  have hZ := hide hz
  have hG := hide hg
  have H1 := hide h1
  have HN := hide hn
  have HOL := hide hOl
  have HPT := hide hpart
  have HR := hide hR
  have HQ := hide hq
  have HS := hide hS
  have HD := hide hD
  have S4 := hide s4
  have D4 := hide d4
  have F10 := hide hFn
  clear hz hb hc hg h1 hn hOl hpart hpvp hF hF8 hdf hnd htos hpp httl hidd hR hq hS hD s4 d4 hFn hFl
  have hgw : g < w.heap.size := (Array.getElem?_eq_some_iff.1 hG.out).1
  have HGW := hide hgw
  have h20 : 20 ≤ n := by have := HN.out; omega
  have hbl : Hid (n ≤ B.length) := hide hnB
  clear hgw hnB
  have hOL40 : Hid (O.length = n - 20) := hide (by have := HN.out; have := HOL.out; omega)
  have hO0 := hide hO
  have HX41 := hide (fun (w' : World) (h' : w'.heap[w.heap.size]? = some (.cells X 36 (0, 0))) => (x.cells h').c41)
  rw [← hno] at HX41
  clear hno hO
  have HBS := hide (fun (w' : World) (h' : w'.heap[w.heap.size]? = some (.cells X 36 (0, 0))) => And.intro ((x.bytS (B := w.heap.size + 1) h' (by omega)).front 4) ((x.bytD (B := w.heap.size + 1) h' (by omega)).front 4))
  rw [← HS.out, ← HD.out] at HBS
  have i10 : (10 : Int) ≤ (n : Int) := by omega
  have i12 : (12 : Int) ≤ (n : Int) := by omega
  have i16 : (16 : Int) ≤ (n : Int) := by omega
  have i20 : (20 : Int) ≤ (n : Int) := by omega
  have c10 : ¬ c = 10 := by omega
  have c12 : ¬ c = 12 := by omega
  have c16 : ¬ c = 16 := by omega
  obtain ⟨dp7, hdp7⟩ : ∃ d, (if c = 20 then some (⟨g, 0, none⟩ : Addr) else some ⟨g, 20, none⟩) = d := ⟨_, rfl⟩
  have HDP : Hid (0 < no → dp7 = some ⟨g, 20, none⟩) := hide (fun hp => by rw [← hdp7, if_neg (by have := HN.out; omega)])
  cases df
  all_goals (
    simp at hpv
    subst hpv
    go_enter Try.func78, Try.ntmps78
    go_wp2_with fail
    refine (HLAY.out _).mono ?_
    rintro _ w2 ⟨A2, c2, rfl, ho2, hb2⟩
    have k2 : Below W.heap.size W w2 := ((Below.refl _ W).alloc (Nat.le_refl _) _).trans (hb2.mono (by simp))
    have B2 : Below w.heap.size w w2 := hB.out.trans (k2.mono hB.out.size)
    have hX2 := row_kept k2 (by have := hZ.out; omega) H1.out
    have hg2 := (B2.block g HGW.out).trans hG.out
    have by2 : Byt w2 w2.heap.size A2 F := by
      obtain ⟨A', c', e, _, hb, _⟩ := ho2.shape
      injection e with e1 e2 e3
      subst e1
      exact hb
    have G2 := hide hg2
    have Y2 := hide by2
    have X2 := hide hX2
    have R2 := hide (Below.row B2 (some g))
    clear k2 B2 hX2 hg2 by2 ho2 hb2 c3 c4 c5 c6 c7 c10'
    have l1 : 10 ≤ n := by omega
    have l2 : 0 + 10 ≤ B.length := by have := hbl.out; omega
    dsimp only
    go_wp2_with (with_reducible refine wpList_copy_bytes rfl (.tmp 7) (.tmp 35) rfl g 0 n c A2 10 c2 B F w2.heap.size ty rfl rfl F10.out G2.out Y2.out l1 l2 ?_)
    intro w3 hg3 hgr3
    have R3 := hide (grown_trans R2.out hgr3)
    have XL : Hid (w.heap.size < w3.heap.size) := hide (by have := hgr3.size; have := (Array.getElem?_eq_some_iff.1 X2.out).1; omega)
    have X3 := hide ((hgr3.block w.heap.size (by have := R2.out.size; have := (Array.getElem?_eq_some_iff.1 X2.out).1; omega) (by have := HGW.out; simp; omega)).trans X2.out)
    have G3 := hide hg3
    clear hg3 hgr3
    obtain ⟨B1, hB1⟩ : ∃ B', B' = splice B 0 F := ⟨_, rfl⟩
    rw [← hB1] at G3
    have L1 : Hid (B1.length = B.length) := hide (by rw [hB1, length_splice _ _ _ (by rw [F10.out]; have := hbl.out; omega)])
    rw [← hB1] at HR
    clear hB1
    go_wp2
    go_region_law (refine step_copy_bytes rfl (.tmp 38) (.tmp 41) rfl g 12 (some ⟨g, 12, none⟩) (n - 12) (c - 12) (some ⟨w.heap.size, 2, none⟩) 4 16 B1 S (w.heap.size + 1) ty (by rfl) (fun _ => rfl) (by rfl) S4.out G3.out (HBS.out w3 X3.out).1 (by omega) (by rw [L1.out]; have := hbl.out; omega) ?_; intro w4 hg4 hgr4)
    have R4 := hide (grown_trans R3.out (⟨hgr4.os, hgr4.tape, hgr4.output, hgr4.size, hgr4.block⟩ : w3.grownBy w4 (some g)))
    have XL4 : Hid (w.heap.size < w4.heap.size) := hide (Nat.lt_of_lt_of_le XL.out hgr4.size)
    have X4 := hide ((hgr4.block w.heap.size XL.out (by have := HGW.out; simp; omega)).trans X3.out)
    have G4 := hide hg4
    obtain ⟨B2, hB2⟩ : ∃ B', B' = splice B1 12 S := ⟨_, rfl⟩
    rw [← hB2] at G4
    have L2 : Hid (B2.length = B.length) := hide (by rw [hB2, length_splice _ _ _ (by rw [S4.out, L1.out]; have := hbl.out; omega), L1.out])
    rw [← hB2] at HR
    clear hB2 hg4 hgr4
    go_wp2
    go_region_law (refine step_copy_bytes rfl (.tmp 44) (.tmp 47) rfl g 16 (some ⟨g, 16, none⟩) (n - 16) (c - 16) (some ⟨w.heap.size, 19, none⟩) 4 16 B2 D (w.heap.size + 1) ty (by rfl) (fun _ => rfl) (by rfl) D4.out G4.out (HBS.out w4 X4.out).2 (by omega) (by rw [L2.out]; have := hbl.out; omega) ?_; intro w5 hg5 hgr5)
    have R5 := hide (grown_trans R4.out (⟨hgr5.os, hgr5.tape, hgr5.output, hgr5.size, hgr5.block⟩ : w4.grownBy w5 (some g)))
    have XL5 : Hid (w.heap.size < w5.heap.size) := hide (Nat.lt_of_lt_of_le XL4.out hgr5.size)
    have X5 := hide ((hgr5.block w.heap.size XL4.out (by have := HGW.out; simp; omega)).trans X4.out)
    have G5 := hide hg5
    obtain ⟨B3, hB3⟩ : ∃ B', B' = splice B2 16 D := ⟨_, rfl⟩
    rw [← hB3] at G5
    have L3 : Hid (B3.length = B.length) := hide (by rw [hB3, length_splice _ _ _ (by rw [D4.out, L2.out]; have := hbl.out; omega), L2.out])
    rw [← hB3] at HR
    clear hB3 hg5 hgr5
    have k41 := HX41.out w5 X5.out
    have O5 := hide (hO0.out.row R5.out)
    go_wp2
    go_region_law (refine step_copy_bytes rfl (.tmp 50) (.tmp 52) rfl g 20 dp7 (n - 20) (c - 20) h.ao no h.co B3 O g ty (by rfl) HDP.out (by rfl) HOL.out G5.out O5.out (by have := HN.out; omega) (by rw [L3.out]; have := hbl.out; have := HN.out; omega) ?_; intro w6 hg6 hgr6)
    have R6 := hide (grown_trans R5.out (⟨hgr6.os, hgr6.tape, hgr6.output, hgr6.size, hgr6.block⟩ : w5.grownBy w6 (some g)))
    have G6 := hide hg6
    obtain ⟨B4, hB4⟩ : ∃ B', B' = splice B3 20 O := ⟨_, rfl⟩
    rw [← hB4] at G6
    have L4 : Hid (B4.length = B.length) := hide (by rw [hB4, length_splice _ _ _ (by rw [HOL.out, L3.out]; have := hbl.out; have := HN.out; omega), L3.out])
    rw [← hB4] at HR
    have ln : (B4.take n).length = n := by rw [List.length_take, L4.out]; exact Nat.min_eq_left hbl.out
    have hgl : g < w6.heap.size := (Array.getElem?_eq_some_iff.1 hg6).1
    have GL := hide hgl
    have by6 : Byt w6 w6.heap.size (some ⟨g, 0, none⟩) (B4.take n) := fun hp => ⟨g, 0, rfl, hgl, fun i hi => by
      have hi' : i < n := by simpa [ln] using hi
      have hi2 : i < B4.length := by have := L4.out; have := hbl.out; omega
      rw [cell_of_row w6 _ _ _ _ _ G6.out, Nat.zero_add, List.getElem?_toArray, List.getElem?_map, List.getElem?_eq_getElem hi2]
      simp [byteV]⟩
    have HSUM : Hid (∀ k, Calls Try.prog 97 #[.slice (some ⟨g, 0, none⟩) n c] (w6.drewN k) fun e w' => e = .returned (.int .u16 (headS (B4.take n) : Nat)) ∧ Below w6.heap.size w6 w') := hide (fun k => by
      have := headsum_any (w6.drewN k) g 0 w6.heap.size c (B4.take n) (by omega) (by omega) (by omega) (by6.drewN k)
      rw [ln] at this
      exact this.mono (fun e w' ⟨h1, k', h2⟩ => ⟨h1, by rw [h2]; exact below_drewN (below_drewN (Below.refl _ w6) k) k'⟩))
    obtain ⟨sm, hsm⟩ : ∃ s, s = headS (B4.take n) := ⟨_, rfl⟩
    have hsm1 : sm ≤ 65535 := by rw [hsm]; exact headS_le _
    rw [← hsm] at HR HSUM
    have hwr : IntKind.i64.wrap (sm : Int) = (sm : Int) := IntWalk.i64_in _ (by omega)
    have HLAY2 : Hid (∀ W' : World, Calls Try.prog 105 #[.slice (some ⟨W'.heap.size, 0, none⟩) 1 1] (W'.alloc (.cells #[.int .i64 2, .int .i64 (sm : Int)] 150)) fun e w' => ∃ A' c', e = .returned (.slice A' 2 c') ∧ OwnB w' (W'.heap.size + 1) (.slice A' 2 c') (numBytes sm 2 2) ∧ Below (W'.heap.size + 1) (W'.alloc (.cells #[.int .i64 2, .int .i64 (sm : Int)] 150)) w') := hide (fun W' => by
      have := layH_any (W'.alloc (.cells #[.int .i64 2, .int .i64 (sm : Int)] 150)) (some ⟨W'.heap.size, 0, none⟩) 1 [(2, sm)] (by rw [heap_size_alloc']; exact Ops.lit W' _ _ _ _ (by simp [fldF])) (fun f hf => by simp at hf; subst hf; exact ⟨by simp, by simp, by simp; omega, by simp; omega⟩) (by simp)
      have e : fldB [(2, sm)] = numBytes sm 2 2 := by simp [fldB]
      rw [e, length_numBytes, heap_size_alloc'] at this
      exact this)
    clear hB4 hg6 hgr6 ln by6 hsm k41
    go_wp2
    go_region_law (first
      | (go_simp; go_at_call 97; refine (HSUM.out 1).mono ?_; rintro e w7 ⟨rfl, hb7⟩)
      | (go_simp; go_at_call 105; refine (HLAY2.out _).mono ?_; rintro e w8 ⟨A8, c8, rfl, ho8, hb8⟩
         have k8 : Below w6.heap.size w6 w8 := (hb7.alloc hb7.size _).trans (hb8.mono (by have := hb7.size; omega))
         have G8 := row_kept k8 GL.out G6.out
         have y8 : Byt w8 w8.heap.size A8 (numBytes sm 2 2) := by
           obtain ⟨A', c', e, _, hb, _⟩ := ho8.shape
           injection e with e1 e2 e3
           subst e1
           exact hb)
      | (refine step_copy_bytes rfl (.tmp 55) (.tmp 61) rfl g 10 (some ⟨g, 10, none⟩) (n - 10) (c - 10) A8 2 c8 B4 (numBytes sm 2 2) w8.heap.size ty (by rfl) (fun _ => rfl) (by rfl) (length_numBytes _ _ _) G8 y8 (by omega) (by rw [L4.out]; have := hbl.out; omega) ?_; intro w9 hg9 hgr9)
      | fail)
    have k8g := Below.row k8 (some g)
    have R9 := grown_trans (grown_trans R6.out k8g) hgr9
    have hfin : w9.heap[g]? = some (.cells ((fourB h B O n).map byteV).toArray ty (0, 0)) := by rw [HR.out]; exact hg9
    have H9 := hide hfin
    have R9 := hide R9
    clear hfin hg9 hgr9 k8g k8 G8 y8 hb7 hb8 ho8
    go_wp2
    go_end0
    exact ⟨rfl, H9.out, R9.out⟩)
end Go.Proofs.Ytcagdcjikbkapaa
