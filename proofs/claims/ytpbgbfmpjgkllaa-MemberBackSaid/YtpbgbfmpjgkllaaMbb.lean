/-
  The walk of the statement MemberBack.
-/
import Derived.Test.YtpbgbfmpjgkllaaMh
import Derived.Test.YtpbgbfmpjgkllaaOne
import Derived.Test.YtpbgbfmpjgkllaaMe
import Derived.Test.YtpbgbfmpjgkllaaMf
import Derived.Test.YtpbgbfmpjgkllaaQd
import Derived.Test.YtpbgbfmpjgkllaaLent
namespace Go.Proofs.Ytpbgbfmpjgkllaa
open Go.RowKit
set_option linter.unusedVariables false
set_option linter.unusedSimpArgs false

theorem num_at {l pre post : List UInt8} {N sz : Nat} (h : l = pre ++ (numBytes N sz sz ++ post)) (h1 : 1 ≤ sz) (h8 : sz ≤ 8) (hN : N < 256 ^ sz) : numQ l pre.length 0 (sz : Int) = (pre.length + sz, N, 0) := by
  rw [numQ_yes h1 h8 (by rw [h]; simp [length_numBytes])]
  have : (l.drop pre.length).take sz = numBytes N sz sz := by
    rw [h, List.drop_left]
    have := List.take_left (l₁ := numBytes N sz sz) (l₂ := post)
    rwa [length_numBytes] at this
  rw [this, numS_all hN]
def rowB (p : Int × Int) : List UInt8 := numBytes p.1.toNat 1 1 ++ numBytes p.2.toNat 6 6
theorem bytesI_eq (l : List (Int × Int)) : bytesI l = numBytes l.length 1 1 ++ l.flatMap rowB := by
  unfold bytesI fldI
  generalize l.length = n
  unfold plB
  rw [List.flatMap_cons]
  congr 1
  induction l with
  | nil => rfl
  | cons a t ih => rw [List.flatMap_cons, List.flatMap_append, ih, List.flatMap_cons]; simp [rowB]
theorem len_rows (l : List (Int × Int)) : (l.flatMap rowB).length = 7 * l.length := by
  induction l with
  | nil => rfl
  | cons a t ih => rw [List.flatMap_cons, List.length_append, ih]; simp [rowB, length_numBytes]; omega
theorem run_at {L : List (Int × Int)} (hr : ∀ p ∈ L, rightI p = true) (hn : L.length ≤ 16) : ∀ j, j ≤ L.length → runR (bytesI L) j = ⟨1 + 7 * j, 0, L.take j⟩
  | 0, _ => by
    have h := num_at (l := bytesI L) (pre := []) (N := L.length) (sz := 1) (by rw [bytesI_eq]; rfl) (by omega) (by omega) (by omega)
    have h' : numQ (bytesI L) 0 0 1 = (0 + 1, L.length, 0) := h
    unfold runR
    rw [h']; rfl
  | j + 1, hj => by
    have ih := run_at hr hn j (by omega)
    have hjl : j < L.length := by omega
    obtain ⟨e1, e2, b1, b2⟩ := right_nat (hr _ (List.getElem_mem hjl))
    unfold natI at e1 e2 b1 b2
    dsimp only at e1 e2 b1 b2
    have hp : (numBytes L.length 1 1 ++ (L.take j).flatMap rowB).length = 1 + 7 * j := by rw [List.length_append, length_numBytes, len_rows, List.length_take, Nat.min_eq_left (by omega)]
    have hsplit : bytesI L = (numBytes L.length 1 1 ++ (L.take j).flatMap rowB) ++ (numBytes L[j].1.toNat 1 1 ++ (numBytes L[j].2.toNat 6 6 ++ (L.drop (j + 1)).flatMap rowB)) := by
      rw [bytesI_eq]
      conv => lhs; rw [← List.take_append_drop j L, List.drop_eq_getElem_cons hjl]
      rw [List.flatMap_append, List.flatMap_cons]
      have e : (List.take j L ++ L[j] :: List.drop (j + 1) L).length = L.length := by rw [← List.drop_eq_getElem_cons hjl, List.take_append_drop]
      rw [e]
      simp [rowB]
    have h1 : numQ (bytesI L) (1 + 7 * j) 0 1 = (1 + 7 * j + 1, L[j].1.toNat, 0) := by
      have := num_at (sz := 1) hsplit (by omega) (by omega) (by omega)
      rw [hp] at this
      exact this
    have hsplit2 : bytesI L = ((numBytes L.length 1 1 ++ (L.take j).flatMap rowB) ++ numBytes L[j].1.toNat 1 1) ++ (numBytes L[j].2.toNat 6 6 ++ (L.drop (j + 1)).flatMap rowB) := by rw [hsplit]; simp
    have h2 : numQ (bytesI L) (1 + 7 * j + 1) 0 6 = (1 + 7 * j + 1 + 6, L[j].2.toNat, 0) := by
      have := num_at (sz := 6) hsplit2 (by omega) (by omega) (by omega)
      rw [List.length_append, hp, length_numBytes] at this
      exact this
    unfold runR
    rw [ih]
    unfold stepR
    dsimp only
    rw [h1]
    dsimp only
    rw [h2]
    dsimp only
    rw [List.take_succ_eq_append_getElem hjl, ← e1, ← e2]
    congr 1
/-- what is read of the bytes. -/
theorem res_back {L : List (Int × Int)} (hr : ∀ p ∈ L, rightI p = true) (hn : L.length ≤ 16) (h1 : 1 ≤ L.length) : resL (bytesI L) = L ∧ resE (bytesI L) = 0 := by
  have h0 : numQ (bytesI L) 0 0 1 = (0 + 1, L.length, 0) := num_at (l := bytesI L) (pre := []) (N := L.length) (sz := 1) (by rw [bytesI_eq]; rfl) (by omega) (by omega) (by omega)
  have hc : cntR (bytesI L) = L.length := by unfold cntR; rw [h0]
  have hrun := run_at hr hn L.length (Nat.le_refl _)
  rw [List.take_length] at hrun
  have hlen : (bytesI L).length = 1 + 7 * L.length := by rw [bytesI_eq, List.length_append, length_numBytes, len_rows]
  have he : endR (bytesI L) = 0 := by
    unfold endR
    rw [hc, hrun, hlen]
    unfold endS
    simp
  have ha : allR (runR (bytesI L) (cntR (bytesI L))).acc = true := by
    rw [hc, hrun]
    unfold allR
    rw [decide_eq_true h1, decide_eq_true hn]
    simpa using fun a b h => hr (a, b) h
  have h := resR_ok he ha
  rw [hc, hrun] at h
  exact h
/-- as many, all right. -/
structure AllV (N : Nat) (l : List (Int × Int)) : Prop where
  len : l.length = N
  right : ∀ p ∈ l, rightI p = true
theorem AllV.set {N : Nat} {l : List (Int × Int)} (h : AllV N l) (k : Nat) {p : Int × Int} (hp : rightI p = true) : AllV N (l.set k p) :=
  ⟨by rw [List.length_set]; exact h.len, fun q hq => (List.mem_or_eq_of_mem_set hq).elim (h.right q) (fun e => by rw [e]; exact hp)⟩
theorem AllV.deny {N : Nat} {l : List (Int × Int)} (h : AllV N l) (me inc : Int) (h0 : 0 ≤ inc) : AllV N (denyL l me inc) := by
  unfold denyL
  split
  · exact h
  · exact h.set _ (by unfold rightI; simp; omega)
theorem AllV.hear {N : Nat} {l : List (Int × Int)} (h : AllV N l) (me k : Int) (i : Int × Int) : AllV N (hearR l me k i).2.2 := by
  unfold hearR
  split
  · next hc =>
    split
    · refine h.deny _ _ ?_
      have := hc.2
      unfold rightI at this
      simp only [Bool.and_eq_true, decide_eq_true_eq] at this
      omega
    · split
      · exact h.set _ hc.2
      · exact h
  · exact h
theorem AllV.zeros (N : Nat) : AllV N (List.replicate N (0, 0)) := ⟨List.length_replicate, fun p hp => by rw [List.eq_of_mem_replicate hp]; decide⟩
theorem hear_newer {l : List (Int × Int)} {me k : Int} {x : Int × Int} (hk : hasV l k = true) (hx : rightI x = true) (hne : k ≠ me) : newerI x (getV (hearR l me k x).2.2 k) = false := by
  unfold hearR
  rw [if_pos ⟨hk, hx⟩, if_neg (fun h => hne h.1)]
  by_cases hn : newerI x (getV l k) = true
  · rw [if_pos hn]
    show newerI x (getV (l.set k.toNat x) k) = false
    rw [getV_set hk]
    exact newerI_self x
  · rw [if_neg hn]
    simpa using hn
end Go.Proofs.Ytpbgbfmpjgkllaa
namespace Go.Proofs.Ytpbgbfmpjgkllaa
open Go.RowKit
set_option maxRecDepth 100000
set_option linter.unusedVariables false
set_option linter.unusedSimpArgs false
attribute [local go_sem ↓] exec_span exec_put exec_build heap_alloc_new heap_old
attribute [local go_sem] spanQ_ptr spanC_some heap_of_drew heap_of_drewN putAt_ptr putOk_ptr oldOk_some World.setRow_alloc_new rs_inf rs_view rs_rinf

/-- the slice that begins at A reads, below block B, as these calls: of whom, what. -/
def ActM (w : World) (B : Nat) (A : Option Addr) (l : List (Int × (Int × Int))) : Prop :=
  0 < l.length → ∃ b off, A = some ⟨b, off, none⟩ ∧ b < B ∧ ∀ i (h : i < l.length), w.cell? ⟨b, off + i * 4 + 1, none⟩ = some (.int .i64 l[i].1) ∧ w.cell? ⟨b, off + i * 4 + 2, none⟩ = some (.int .i64 l[i].2.1) ∧ w.cell? ⟨b, off + i * 4 + 2 + 1, none⟩ = some (.int .i64 l[i].2.2)
/-- two views side by side. -/
structure BackS (w : World) (B g1 b1 g2 b2 N : Nat) (l1 l2 : List (Int × Int)) : Prop where
  v : ViewS w g1 b1 0 l1
  u : ViewS w g2 b2 ((N : Int) - 1) l2
  av : AllV N l1
  au : AllV N l2
  far : B ≤ b1 ∧ B ≤ b2
  ne : b1 ≠ b2 ∧ b1 ≠ g2 ∧ b2 ≠ g1
theorem BackS.below {w w' : World} {B g1 b1 g2 b2 N : Nat} {l1 l2 : List (Int × Int)} (h : BackS w B g1 b1 g2 b2 N l1 l2) (hb : Below w.heap.size w w') : BackS w' B g1 b1 g2 b2 N l1 l2 :=
  ⟨h.v.below hb (Nat.le_refl _), h.u.below hb (Nat.le_refl _), h.av, h.au, h.far, h.ne⟩
theorem BackS.hear1 {w w' : World} {B g1 b1 g2 b2 N : Nat} {l1 l2 : List (Int × Int)} (h : BackS w B g1 b1 g2 b2 N l1 l2) {k : Int} {i : Int × Int} (hv : ViewS w' g1 b1 0 (hearR l1 0 k i).2.2) (hg : w.grownBy w' (some b1)) : BackS w' B g1 b1 g2 b2 N (hearR l1 0 k i).2.2 l2 :=
  ⟨hv, h.u.other hg h.ne.2.1 h.ne.1, h.av.hear _ _ _, h.au, h.far, h.ne⟩
theorem BackS.hear2 {w w' : World} {B g1 b1 g2 b2 N : Nat} {l1 l2 : List (Int × Int)} (h : BackS w B g1 b1 g2 b2 N l1 l2) {k : Int} {i : Int × Int} (hv : ViewS w' g2 b2 ((N : Int) - 1) (hearR l2 ((N : Int) - 1) k i).2.2) (hg : w.grownBy w' (some b2)) : BackS w' B g1 b1 g2 b2 N l1 (hearR l2 ((N : Int) - 1) k i).2.2 :=
  ⟨h.v.other hg h.ne.2.2 (fun e => h.ne.1 e.symm), hv, h.av, h.au.hear _ _ _, h.far, h.ne⟩
theorem AllV.has {N : Nat} {l : List (Int × Int)} (h : AllV N l) {k : Int} (h0 : 0 ≤ k) (h1 : k < (N : Int)) : hasV l k = true := decide_eq_true ⟨h0, by rw [h.len]; exact h1⟩
theorem neq_inf_self (w : World) (s i : Int) : (binOp .neq 24 (.agg #[.int .i64 s, .int .i64 i]) (.agg #[.int .i64 s, .int .i64 i])).run Try.prog w = .ok (.bool false) w := by
  rw [neq_inf]; simp
theorem new_ok0 {N : Nat} (h1 : 1 ≤ N) (h16 : N ≤ 16) : newOk 0 (N : Int) = true ∧ newOk ((N : Int) - 1) (N : Int) = true := by
  unfold newOk
  constructor <;> simp <;> omega
/-- the row at bx reads so. -/
def CX (w : World) (bx ox : Nat) (l : List (Int × Int)) : Prop := ∀ i (h : i < l.length), w.cell? ⟨bx, ox + i * 2, none⟩ = some (.int .i64 l[i].1) ∧ w.cell? ⟨bx, ox + i * 2 + 1, none⟩ = some (.int .i64 l[i].2)
theorem cell_grown {w w' : World} {b2 bx o : Nat} {v : Value} (hg : w.grownBy w' (some b2)) (hne : bx ≠ b2) (h : w.cell? ⟨bx, o, none⟩ = some v) : w'.cell? ⟨bx, o, none⟩ = some v := hg.cell h (by simp; omega)
theorem CX.bw {w : World} {bx ox : Nat} {l : List (Int × Int)} (h : CX w bx ox l) (p : BW w) : CX p.w bx ox l := fun i hi => ⟨p.cell (h i hi).1, p.cell (h i hi).2⟩
theorem CX.kept {w w' : World} {bx ox b2 : Nat} {l : List (Int × Int)} (h : CX w bx ox l) (hg : w.grownBy w' (some b2)) (hne : bx ≠ b2) : CX w' bx ox l := fun i hi => ⟨cell_grown hg hne (h i hi).1, cell_grown hg hne (h i hi).2⟩
theorem cell_not_map {w : World} {b o : Nat} {L : List (Int × Value)} {v : Value} (h : MapS w b L) (hc : w.cell? ⟨b, o, none⟩ = some v) : False := by
  obtain ⟨es, c, hb, -⟩ := h
  simp [World.cell?, hb] at hc
set_option maxHeartbeats 16000000 in
theorem memberBack_any (w : World) (nd : Int) (A : Option Addr) (c : Nat) (l : List (Int × (Int × Int))) (T : Option Addr) (ct : Nat) (m : List (Int × (Int × Int))) (hb : ActM w w.heap.size A l) (ht : ActM w w.heap.size T m) :
    Calls Try.prog 7 #[.int .i64 nd, .slice A l.length c, .slice T m.length ct] w (fun e w' => e = .returned (.bool true) ∧ Below w.heap.size w w') := by
  have HA := hide hb
  have HT := hide ht
  have KK := hide (fun W => knownM_any W)
  have KC := hide (count_any nd 16 w (by omega) (by omega))
  have hc16 := count_lt nd (show 0 < 16 by omega)
  obtain ⟨cc, hcc⟩ : ∃ q, q = countS nd 16 := ⟨_, rfl⟩
  rw [← hcc] at KC hc16
  obtain ⟨n1, hn1⟩ : ∃ N, N = l.length := ⟨_, rfl⟩
  obtain ⟨n2, hn2⟩ : ∃ N, N = m.length := ⟨_, rfl⟩
  rw [← hn1, ← hn2]
  have HN1 := hide hn1
  have HN2 := hide hn2
  clear hb ht hn1 hn2 hcc
  obtain ⟨N, hN⟩ : ∃ N : Nat, (1 + (cc : Int)) = (N : Int) := ⟨1 + cc, by omega⟩
  have h1N : 1 ≤ N := by omega
  have h16N : N ≤ 16 := by omega
  obtain ⟨hok1, hok2⟩ := new_ok0 h1N h16N
  have HOK := hide (And.intro hok1 hok2)
  clear hok1 hok2
  go_enter Try.func7, Try.ntmps7
  go_wp2_with fail
  refine KC.out.mono ?_
  rintro e w0 ⟨rfl, rfl⟩
  dsimp only
  go_wp2_with fail
  refine (newV_any w 0 (N : Int)).mono ?_
  rintro e w1 ⟨hbel, ⟨hno, -⟩ | ⟨-, g1, b1, rfl, hg, hb, hv⟩⟩
  · rw [HOK.out.1] at hno; cases hno
  have HB1 := hide hbel
  have HV := hide hv
  have HG1 := hide (And.intro hg hb)
  clear hbel hv hg hb KC hN hc16
  dsimp only
  go_wp2_with fail
  refine (newV_any w1 ((N : Int) - 1) (N : Int)).mono ?_
  rintro e w2 ⟨hbel, ⟨hno, -⟩ | ⟨-, g2, b2, rfl, hg, hb, hv⟩⟩
  · rw [HOK.out.2] at hno; cases hno
  have HB2 := hide (HB1.out.trans (hbel.mono HB1.out.size))
  have HZ : Hid (AllV N (List.replicate ((N : Int)).toNat (0, 0))) := hide (by rw [Int.toNat_natCast]; exact AllV.zeros N)
  obtain ⟨z, hz⟩ : ∃ z, z = List.replicate ((N : Int)).toNat ((0 : Int), (0 : Int)) := ⟨_, rfl⟩
  have HV1 := HV.out
  rw [← hz] at HZ hv HV1
  have HM : Hid (BackS w2 w.heap.size g1 b1 g2 b2 N z z) := hide ⟨HV1.below hbel (Nat.le_refl _), hv, HZ.out, HZ.out, by
    have := HB1.out.size; have := HG1.out.2; omega, by
    have h1 := HV1.lt; have h2 := HV1.map.lt
    omega⟩
  clear hbel hv hg hb HV HV1 HG1 HZ hz HB1 HOK
  dsimp only
  go_wp2
  go_loopw [11] (fun v wr => ∃ (k : Nat) (l1 l2 : List (Int × Int)), k ≤ n1 ∧ k ≤ 100 ∧ v = .int .i64 (k : Int) ∧ Hid (BackS wr w.heap.size g1 b1 g2 b2 N l1 l2) ∧ Hid (Below w.heap.size w wr)) (fun v _ => n1 - (intOf v).toNat)
  case atStart => exact ⟨0, z, z, by omega, by omega, rfl, HM, HB2⟩
  case round =>
    clear HM HB2
    obtain ⟨k, l1, l2, hk, hk100, rfl, hM, hbel⟩ := hrel
    by_cases hlt : k < n1
    · have hji : (k : Int) < (n1 : Int) := by omega
      by_cases hlt2 : k < 100
      · have hj100 : (k : Int) < 100 := by omega
        have hkl : k < l.length := by rw [← HN1.out]; exact hlt
        obtain ⟨bl, off, rfl, hbl, hcl⟩ := HA.out (by omega)
        obtain ⟨h1, h2, h3⟩ := hcl k hkl
        obtain ⟨⟨K, s, i⟩, hy⟩ : ∃ y, y = l[k] := ⟨_, rfl⟩
        rw [← hy] at h1 h2 h3
        have KG := hide (fun W => given14_any W (s, i))
        have i1 := fun p : BW wr => p.cell ((hbel.out.cell (show (⟨bl, off + k * 4 + 1, none⟩ : Addr).block < w.heap.size from hbl)).trans h1)
        have i2 := fun p : BW wr => p.cell ((hbel.out.cell (show (⟨bl, off + k * 4 + 2, none⟩ : Addr).block < w.heap.size from hbl)).trans h2)
        have i3 := fun p : BW wr => p.cell ((hbel.out.cell (show (⟨bl, off + k * 4 + 2 + 1, none⟩ : Addr).block < w.heap.size from hbl)).trans h3)
        unfold infV infA at KG
        dsimp only at KG i1 i2 i3
        have hbs := hide hbel.out.size
        clear h1 h2 h3 hcl hbl hy hkl
        go_upto_region 9 with (fail)
        refine wp_region_quiet_tail wr (Below.refl _ _) 12 (by kernel_rfl) (by kernel_rfl) ?_
        simp only [List.append_eq, List.cons_append, List.nil_append, List.take_succ_cons, List.take_zero, List.drop_succ_cons, List.drop_zero]
        repeat
          first
          | (go_big_quiet_step (first
          | ((go_at_call 9; with_reducible exact Calls.bel (KG.out _)))
          | fail))
          | (go_big_quiet_want; apply quiet_span; (intro p; go_simp; rfl); (try simp only [Act.put, List.setIfInBounds_toArray, List.set_cons_zero, List.set_cons_succ]); go_big_quiet_on)
        refine wpQuiet_nil ?_
        intro _ hw'
        obtain ⟨pq, hw2'⟩ := hw'
        subst hw2'
        have HM5 := hide (hM.out.below pq.below)
        have HB5 := hide (hbel.out.trans (pq.below.mono hbs.out))
        obtain ⟨w5, hw5⟩ : ∃ W, W = pq.w := ⟨_, rfl⟩
        rw [← hw5] at HM5 HB5 ⊢
        clear i1 i2 i3 hM hbel hw5 pq
        have KH := hearV_any w5 g1 b1 0 l1 K (s, i) HM5.out.v (HM5.out.av.has (by omega) (by omega))
        unfold infV infA at KH
        go_wp2_with fail
        refine KH.mono ?_
        rintro e w6 ⟨rfl, hv6, hg6⟩
        clear KH
        have HM6 := hide (HM5.out.hear1 hv6 hg6)
        have HB6 := hide (below_turn HB5.out hg6 HM5.out.far.1)
        clear hv6 hg6 HM5 HB5
        dsimp only
        go_wp2
        go_roundw
        case rel => exact ⟨k + 1, _, _, by omega, by omega, by go_num, HM6, HB6⟩
        case measure => simp [intOf]; omega
      · have hj100 : ¬ (k : Int) < 100 := by omega
        clear hlt
        go_wp2
        go_loopw [12] (fun v wr => ∃ (k : Nat) (l1 l2 : List (Int × Int)), k ≤ n2 ∧ k ≤ 100 ∧ v = .int .i64 (k : Int) ∧ Hid (BackS wr w.heap.size g1 b1 g2 b2 N l1 l2) ∧ Hid (Below w.heap.size w wr)) (fun v _ => n2 - (intOf v).toNat)
        case atStart => exact ⟨0, l1, l2, by omega, by omega, rfl, hM, hbel⟩
        case round =>
          clear hM hbel hji hk hk100
          obtain ⟨k, l1, l2, hk, hk100, rfl, hM, hbel⟩ := hrel
          by_cases hlt : k < n2
          · have hji : (k : Int) < (n2 : Int) := by omega
            by_cases hlt2 : k < 100
            · have hj100 : (k : Int) < 100 := by omega
              have hkl : k < m.length := by rw [← HN2.out]; exact hlt
              obtain ⟨bl, off, rfl, hbl, hcl⟩ := HT.out (by omega)
              obtain ⟨h1, h2, h3⟩ := hcl k hkl
              obtain ⟨⟨K, s, i⟩, hy⟩ : ∃ y, y = m[k] := ⟨_, rfl⟩
              rw [← hy] at h1 h2 h3
              have KG := hide (fun W => given14_any W (s, i))
              have i1 := fun p : BW wr => p.cell ((hbel.out.cell (show (⟨bl, off + k * 4 + 1, none⟩ : Addr).block < w.heap.size from hbl)).trans h1)
              have i2 := fun p : BW wr => p.cell ((hbel.out.cell (show (⟨bl, off + k * 4 + 2, none⟩ : Addr).block < w.heap.size from hbl)).trans h2)
              have i3 := fun p : BW wr => p.cell ((hbel.out.cell (show (⟨bl, off + k * 4 + 2 + 1, none⟩ : Addr).block < w.heap.size from hbl)).trans h3)
              unfold infV infA at KG
              dsimp only at KG i1 i2 i3
              have hbs := hide hbel.out.size
              clear h1 h2 h3 hcl hbl hy hkl
              go_upto_region 13 with (fail)
              refine wp_region_quiet_tail wr (Below.refl _ _) 12 (by kernel_rfl) (by kernel_rfl) ?_
              simp only [List.append_eq, List.cons_append, List.nil_append, List.take_succ_cons, List.take_zero, List.drop_succ_cons, List.drop_zero]
              repeat
                first
                | (go_big_quiet_step (first
                | ((go_at_call 9; with_reducible exact Calls.bel (KG.out _)))
                | fail))
                | (go_big_quiet_want; apply quiet_span; (intro p; go_simp; rfl); (try simp only [Act.put, List.setIfInBounds_toArray, List.set_cons_zero, List.set_cons_succ]); go_big_quiet_on)
              refine wpQuiet_nil ?_
              intro _ hw'
              obtain ⟨pq, hw2'⟩ := hw'
              subst hw2'
              have HM5 := hide (hM.out.below pq.below)
              have HB5 := hide (hbel.out.trans (pq.below.mono hbs.out))
              obtain ⟨w5, hw5⟩ : ∃ W, W = pq.w := ⟨_, rfl⟩
              rw [← hw5] at HM5 HB5 ⊢
              clear i1 i2 i3 hM hbel hw5 pq
              have KH := hearV_any w5 g2 b2 ((N : Int) - 1) l2 K (s, i) HM5.out.u (HM5.out.au.has (by omega) (by omega))
              unfold infV infA at KH
              go_wp2_with fail
              refine KH.mono ?_
              rintro e w6 ⟨rfl, hv6, hg6⟩
              clear KH
              have HM6 := hide (HM5.out.hear2 hv6 hg6)
              have HB6 := hide (below_turn HB5.out hg6 HM5.out.far.2)
              clear hv6 hg6 HM5 HB5
              dsimp only
              go_wp2
              go_roundw
              case rel => exact ⟨k + 1, _, _, by omega, by omega, by go_num, HM6, HB6⟩
              case measure => simp [intOf]; omega
            · have hj100 : ¬ (k : Int) < 100 := by omega
              clear hlt
              have KB := hide (bytesV_any wr g1 b1 0 l1 hM.out.v (by rw [hM.out.av.len]; exact h16N) hM.out.av.right)
              have HQ := hide (res_back hM.out.av.right (by rw [hM.out.av.len]; exact h16N) (by rw [hM.out.av.len]; exact h1N))
              have HBL : Hid ((bytesI l1).length ≤ 140737488420864) := hide (by rw [bytesI_eq, List.length_append, length_numBytes, len_rows, hM.out.av.len]; omega)
              obtain ⟨BB, hBB⟩ : ∃ q, q = bytesI l1 := ⟨_, rfl⟩
              rw [← hBB] at KB HQ HBL
              clear hBB
              go_wp2_with fail
              refine KB.out.mono ?_
              rintro e w7 ⟨A7, c7, rfl, hown, hb7⟩
              obtain ⟨A8, c8, hv8, hl8, hby8, -, -⟩ := hown.shape
              cases hv8
              have KRd := hide (readM_any w7 A7 c7 BB hl8 HBL.out hby8)
              have HM7 := hide (hM.out.below hb7)
              have HB7 := hide (hbel.out.trans (hb7.mono hbel.out.size))
              clear hown hl8 hby8 hb7 KB HBL hM hbel hji hk hk100
              dsimp only
              go_wp2_with fail
              refine KRd.out.mono ?_
              rintro e w8 ⟨Ax, cx, Tx, hTx, rfl, -, hvx, hb8⟩
              rw [HQ.out.1, HM7.out.av.len] at hTx
              rw [HQ.out.1] at hvx
              rw [HQ.out.2]
              subst hTx
              have HM8 := hide (HM7.out.below hb8)
              have HB8 := hide (HB7.out.trans (hb8.mono HB7.out.size))
              obtain ⟨bx, ox, rfl, hbx, hcx⟩ := hvx (by rw [HM7.out.av.len]; omega)
              have HC : Hid (CX w8 bx ox l1) := hide hcx
              have HNE : Hid (bx ≠ b2) := hide (fun e => by
                have h1 := (hcx 0 (by rw [HM7.out.av.len]; omega)).1
                rw [e] at h1
                exact cell_not_map HM8.out.u.map h1)
              clear hvx hb8 hbx hcx HQ KRd HM7 HB7
              dsimp only
              go_wp2
              go_loopw [15] (fun v wr => ∃ (k : Nat) (l2 : List (Int × Int)), k ≤ Tx ∧ v = .int .i64 (k : Int) ∧ Hid (BackS wr w.heap.size g1 b1 g2 b2 Tx l1 l2) ∧ Hid (CX wr bx ox l1) ∧ Hid (Below w.heap.size w wr)) (fun v _ => Tx - (intOf v).toNat)
              case atStart => exact ⟨0, l2, by omega, rfl, HM8, HC, HB8⟩
              case round =>
                clear HM8 HB8 HC
                obtain ⟨k, l2, hk, rfl, hM, hC, hbel⟩ := hrel
                by_cases hlt : k < Tx
                · have hji : (k : Int) < (Tx : Int) := by omega
                  have hkl : k < l1.length := by rw [hM.out.av.len]; exact hlt
                  obtain ⟨h1, h2⟩ := hC.out k hkl
                  have hga := getV_at hkl
                  have hri := hM.out.av.right _ (List.getElem_mem hkl)
                  obtain ⟨⟨s, i⟩, hy⟩ : ∃ y, y = l1[k] := ⟨_, rfl⟩
                  rw [← hy] at h1 h2 hga hri
                  have HRI := hide hri
                  have KG := hide (fun p : BW wr => (by
                    have := getV_any p.w g1 b1 0 l1 (k : Int) (hM.out.v.bw p)
                    rw [hga.1] at this
                    exact this : Calls Try.prog 27 #[.pointer (some ⟨g1, 0, none⟩), .int .i64 (k : Int)] p.w (RetV p.w (infV (s, i)))))
                  have i1 := fun p : BW wr => p.cell h1
                  have i2 := fun p : BW wr => p.cell h2
                  have hneq := fun W => neq_inf_self W s i
                  unfold infV infA at KG
                  dsimp only at KG i1 i2
                  have hbs := hide hbel.out.size
                  have HH1 := hide h1
                  have HH2 := hide h2
                  clear h1 h2 hga hri hy hkl
                  go_upto_region 20 with (fail)
                  first | refine wp_region_belowS wr (Below.refl _ _) ?_ | refine wp_region_below wr (Below.refl _ _) (by kernel_rfl) (by kernel_rfl) ?_
                  repeat
                    first
                    | (go_big_quiet_step (first
                    | ((go_at_call 27; with_reducible exact Calls.bel (KG.out _)))
                    | fail))
                    | (go_big_quiet_want; apply quiet_span; (intro p; go_simp; rfl); (try simp only [Act.put, List.setIfInBounds_toArray, List.set_cons_zero, List.set_cons_succ]); go_big_quiet_on)
                  refine wpQuiet_nil ?_
                  intro _ hw'
                  obtain ⟨pq, hw2'⟩ := hw'
                  subst hw2'
                  have HM5 := hide (hM.out.below pq.below)
                  have HC5 := hide (hC.out.bw pq)
                  have HB5 := hide (hbel.out.trans (pq.below.mono hbs.out))
                  have j1 := i1 pq
                  have j2 := i2 pq
                  obtain ⟨w5, hw5⟩ : ∃ W, W = pq.w := ⟨_, rfl⟩
                  rw [← hw5] at HM5 HC5 HB5 j1 j2 ⊢
                  clear i1 i2 hM hbel hw5 hC pq KG HH1 HH2
                  have KH := hearV_any w5 g2 b2 ((Tx : Int) - 1) l2 (k : Int) (s, i) HM5.out.u (HM5.out.au.has (by omega) (by omega))
                  unfold infV infA at KH
                  go_wp2_with fail
                  refine KH.mono ?_
                  rintro e w6 ⟨rfl, hv6, hg6⟩
                  clear KH
                  have HM6 := hide (HM5.out.hear2 hv6 hg6)
                  have HC6 := hide (HC5.out.kept hg6 HNE.out)
                  have HB6 := hide (below_turn HB5.out hg6 HM5.out.far.2)
                  have HNW : Hid ((k : Int) ≠ (Tx : Int) - 1 → newerI (s, i) (getV (hearR l2 ((Tx : Int) - 1) (k : Int) (s, i)).2.2 (k : Int)) = false) := hide (fun h => hear_newer (HM5.out.au.has (by omega) (by omega)) HRI.out h)
                  have k1 := fun p : BW w6 => p.cell ((cell_grown hg6 HNE.out j1))
                  have k2 := fun p : BW w6 => p.cell ((cell_grown hg6 HNE.out j2))
                  clear hv6 hg6 HM5 HB5 HC5 j1 j2
                  dsimp only
                  obtain ⟨l3, hl3⟩ : ∃ q, q = (hearR l2 ((Tx : Int) - 1) (k : Int) (s, i)).2.2 := ⟨_, rfl⟩
                  rw [← hl3] at HM6 HNW
                  have KG := hide (fun p : BW w6 => getV_any p.w g2 b2 ((Tx : Int) - 1) l3 (k : Int) (HM6.out.u.bw p))
                  have KN := hide (fun W => newerI_any W (s, i) (getV l3 (k : Int)))
                  obtain ⟨⟨t, j⟩, hgt⟩ : ∃ q, q = getV l3 (k : Int) := ⟨_, rfl⟩
                  rw [← hgt] at KG KN HNW
                  unfold infV infA at KG KN
                  dsimp only at KG KN k1 k2
                  clear hl3 hgt
                  have hbs := hide HB6.out.size
                  by_cases hkn : (k : Int) = (Tx : Int) - 1
                  · have q1 : ((k : Int) == (Tx : Int) - 1) = true := by simpa using hkn
                    have q2 : ((k : Int) != (Tx : Int) - 1) = false := by simpa using hkn
                    clear hkn
                    go_upto_region 23 with (fail)
                    first | refine wp_region_belowS w6 (Below.refl _ _) ?_ | refine wp_region_below w6 (Below.refl _ _) (by kernel_rfl) (by kernel_rfl) ?_
                    repeat
                      first
                      | (go_big_quiet_step (first
                      | ((go_at_call 27; with_reducible exact Calls.bel (KG.out _)))
                      | ((go_at_call 10; with_reducible exact Calls.bel (KN.out _)))
                      | fail))
                      | (go_big_quiet_want; apply quiet_span; (intro p; go_simp; rfl); (try simp only [Act.put, List.setIfInBounds_toArray, List.set_cons_zero, List.set_cons_succ]); go_big_quiet_on)
                    refine wpQuiet_nil ?_
                    intro _ hw'
                    obtain ⟨pq, hw2'⟩ := hw'
                    subst hw2'
                    have HM9 := hide (HM6.out.below pq.below)
                    have HC9 := hide (HC6.out.bw pq)
                    have HB9 := hide (HB6.out.trans (pq.below.mono hbs.out))
                    clear k1 k2
                    go_wp2
                    go_roundw
                    case rel => exact ⟨k + 1, _, by omega, by go_num, HM9, HC9, HB9⟩
                    case measure => simp [intOf]; omega
                  · rw [HNW.out hkn] at KN
                    have q1 : ((k : Int) == (Tx : Int) - 1) = false := by simpa using hkn
                    have q2 : ((k : Int) != (Tx : Int) - 1) = true := by simpa using hkn
                    clear hkn
                    go_upto_region 23 with (fail)
                    first | refine wp_region_belowS w6 (Below.refl _ _) ?_ | refine wp_region_below w6 (Below.refl _ _) (by kernel_rfl) (by kernel_rfl) ?_
                    repeat
                      first
                      | (go_big_quiet_step (first
                      | ((go_at_call 27; with_reducible exact Calls.bel (KG.out _)))
                      | ((go_at_call 10; with_reducible exact Calls.bel (KN.out _)))
                      | fail))
                      | (go_big_quiet_want; apply quiet_span; (intro p; go_simp; rfl); (try simp only [Act.put, List.setIfInBounds_toArray, List.set_cons_zero, List.set_cons_succ]); go_big_quiet_on)
                    refine wpQuiet_nil ?_
                    intro _ hw'
                    obtain ⟨pq, hw2'⟩ := hw'
                    subst hw2'
                    have HM9 := hide (HM6.out.below pq.below)
                    have HC9 := hide (HC6.out.bw pq)
                    have HB9 := hide (HB6.out.trans (pq.below.mono hbs.out))
                    clear k1 k2
                    go_wp2
                    go_roundw
                    case rel => exact ⟨k + 1, _, by omega, by go_num, HM9, HC9, HB9⟩
                    case measure => simp [intOf]; omega
                · obtain rfl : k = Tx := by omega
                  go_wp2_with fail
                  refine (KK.out _).mono ?_
                  rintro e w9 ⟨rfl, b9⟩
                  have B9 := hide (hbel.out.trans (b9.mono hbel.out.size))
                  clear b9
                  dsimp only
                  go_wp2
                  go_ret
                  exact ⟨rfl, B9.out⟩
          · have hji : ¬ (k : Int) < (n2 : Int) := by omega
            clear hlt
            have KB := hide (bytesV_any wr g1 b1 0 l1 hM.out.v (by rw [hM.out.av.len]; exact h16N) hM.out.av.right)
            have HQ := hide (res_back hM.out.av.right (by rw [hM.out.av.len]; exact h16N) (by rw [hM.out.av.len]; exact h1N))
            have HBL : Hid ((bytesI l1).length ≤ 140737488420864) := hide (by rw [bytesI_eq, List.length_append, length_numBytes, len_rows, hM.out.av.len]; omega)
            obtain ⟨BB, hBB⟩ : ∃ q, q = bytesI l1 := ⟨_, rfl⟩
            rw [← hBB] at KB HQ HBL
            clear hBB
            go_wp2_with fail
            refine KB.out.mono ?_
            rintro e w7 ⟨A7, c7, rfl, hown, hb7⟩
            obtain ⟨A8, c8, hv8, hl8, hby8, -, -⟩ := hown.shape
            cases hv8
            have KRd := hide (readM_any w7 A7 c7 BB hl8 HBL.out hby8)
            have HM7 := hide (hM.out.below hb7)
            have HB7 := hide (hbel.out.trans (hb7.mono hbel.out.size))
            clear hown hl8 hby8 hb7 KB HBL hM hbel hji hk hk100
            dsimp only
            go_wp2_with fail
            refine KRd.out.mono ?_
            rintro e w8 ⟨Ax, cx, Tx, hTx, rfl, -, hvx, hb8⟩
            rw [HQ.out.1, HM7.out.av.len] at hTx
            rw [HQ.out.1] at hvx
            rw [HQ.out.2]
            subst hTx
            have HM8 := hide (HM7.out.below hb8)
            have HB8 := hide (HB7.out.trans (hb8.mono HB7.out.size))
            obtain ⟨bx, ox, rfl, hbx, hcx⟩ := hvx (by rw [HM7.out.av.len]; omega)
            have HC : Hid (CX w8 bx ox l1) := hide hcx
            have HNE : Hid (bx ≠ b2) := hide (fun e => by
              have h1 := (hcx 0 (by rw [HM7.out.av.len]; omega)).1
              rw [e] at h1
              exact cell_not_map HM8.out.u.map h1)
            clear hvx hb8 hbx hcx HQ KRd HM7 HB7
            dsimp only
            go_wp2
            go_loopw [15] (fun v wr => ∃ (k : Nat) (l2 : List (Int × Int)), k ≤ Tx ∧ v = .int .i64 (k : Int) ∧ Hid (BackS wr w.heap.size g1 b1 g2 b2 Tx l1 l2) ∧ Hid (CX wr bx ox l1) ∧ Hid (Below w.heap.size w wr)) (fun v _ => Tx - (intOf v).toNat)
            case atStart => exact ⟨0, l2, by omega, rfl, HM8, HC, HB8⟩
            case round =>
              clear HM8 HB8 HC
              obtain ⟨k, l2, hk, rfl, hM, hC, hbel⟩ := hrel
              by_cases hlt : k < Tx
              · have hji : (k : Int) < (Tx : Int) := by omega
                have hkl : k < l1.length := by rw [hM.out.av.len]; exact hlt
                obtain ⟨h1, h2⟩ := hC.out k hkl
                have hga := getV_at hkl
                have hri := hM.out.av.right _ (List.getElem_mem hkl)
                obtain ⟨⟨s, i⟩, hy⟩ : ∃ y, y = l1[k] := ⟨_, rfl⟩
                rw [← hy] at h1 h2 hga hri
                have HRI := hide hri
                have KG := hide (fun p : BW wr => (by
                  have := getV_any p.w g1 b1 0 l1 (k : Int) (hM.out.v.bw p)
                  rw [hga.1] at this
                  exact this : Calls Try.prog 27 #[.pointer (some ⟨g1, 0, none⟩), .int .i64 (k : Int)] p.w (RetV p.w (infV (s, i)))))
                have i1 := fun p : BW wr => p.cell h1
                have i2 := fun p : BW wr => p.cell h2
                have hneq := fun W => neq_inf_self W s i
                unfold infV infA at KG
                dsimp only at KG i1 i2
                have hbs := hide hbel.out.size
                have HH1 := hide h1
                have HH2 := hide h2
                clear h1 h2 hga hri hy hkl
                go_upto_region 20 with (fail)
                first | refine wp_region_belowS wr (Below.refl _ _) ?_ | refine wp_region_below wr (Below.refl _ _) (by kernel_rfl) (by kernel_rfl) ?_
                repeat
                  first
                  | (go_big_quiet_step (first
                  | ((go_at_call 27; with_reducible exact Calls.bel (KG.out _)))
                  | fail))
                  | (go_big_quiet_want; apply quiet_span; (intro p; go_simp; rfl); (try simp only [Act.put, List.setIfInBounds_toArray, List.set_cons_zero, List.set_cons_succ]); go_big_quiet_on)
                refine wpQuiet_nil ?_
                intro _ hw'
                obtain ⟨pq, hw2'⟩ := hw'
                subst hw2'
                have HM5 := hide (hM.out.below pq.below)
                have HC5 := hide (hC.out.bw pq)
                have HB5 := hide (hbel.out.trans (pq.below.mono hbs.out))
                have j1 := i1 pq
                have j2 := i2 pq
                obtain ⟨w5, hw5⟩ : ∃ W, W = pq.w := ⟨_, rfl⟩
                rw [← hw5] at HM5 HC5 HB5 j1 j2 ⊢
                clear i1 i2 hM hbel hw5 hC pq KG HH1 HH2
                have KH := hearV_any w5 g2 b2 ((Tx : Int) - 1) l2 (k : Int) (s, i) HM5.out.u (HM5.out.au.has (by omega) (by omega))
                unfold infV infA at KH
                go_wp2_with fail
                refine KH.mono ?_
                rintro e w6 ⟨rfl, hv6, hg6⟩
                clear KH
                have HM6 := hide (HM5.out.hear2 hv6 hg6)
                have HC6 := hide (HC5.out.kept hg6 HNE.out)
                have HB6 := hide (below_turn HB5.out hg6 HM5.out.far.2)
                have HNW : Hid ((k : Int) ≠ (Tx : Int) - 1 → newerI (s, i) (getV (hearR l2 ((Tx : Int) - 1) (k : Int) (s, i)).2.2 (k : Int)) = false) := hide (fun h => hear_newer (HM5.out.au.has (by omega) (by omega)) HRI.out h)
                have k1 := fun p : BW w6 => p.cell ((cell_grown hg6 HNE.out j1))
                have k2 := fun p : BW w6 => p.cell ((cell_grown hg6 HNE.out j2))
                clear hv6 hg6 HM5 HB5 HC5 j1 j2
                dsimp only
                obtain ⟨l3, hl3⟩ : ∃ q, q = (hearR l2 ((Tx : Int) - 1) (k : Int) (s, i)).2.2 := ⟨_, rfl⟩
                rw [← hl3] at HM6 HNW
                have KG := hide (fun p : BW w6 => getV_any p.w g2 b2 ((Tx : Int) - 1) l3 (k : Int) (HM6.out.u.bw p))
                have KN := hide (fun W => newerI_any W (s, i) (getV l3 (k : Int)))
                obtain ⟨⟨t, j⟩, hgt⟩ : ∃ q, q = getV l3 (k : Int) := ⟨_, rfl⟩
                rw [← hgt] at KG KN HNW
                unfold infV infA at KG KN
                dsimp only at KG KN k1 k2
                clear hl3 hgt
                have hbs := hide HB6.out.size
                by_cases hkn : (k : Int) = (Tx : Int) - 1
                · have q1 : ((k : Int) == (Tx : Int) - 1) = true := by simpa using hkn
                  have q2 : ((k : Int) != (Tx : Int) - 1) = false := by simpa using hkn
                  clear hkn
                  go_upto_region 23 with (fail)
                  first | refine wp_region_belowS w6 (Below.refl _ _) ?_ | refine wp_region_below w6 (Below.refl _ _) (by kernel_rfl) (by kernel_rfl) ?_
                  repeat
                    first
                    | (go_big_quiet_step (first
                    | ((go_at_call 27; with_reducible exact Calls.bel (KG.out _)))
                    | ((go_at_call 10; with_reducible exact Calls.bel (KN.out _)))
                    | fail))
                    | (go_big_quiet_want; apply quiet_span; (intro p; go_simp; rfl); (try simp only [Act.put, List.setIfInBounds_toArray, List.set_cons_zero, List.set_cons_succ]); go_big_quiet_on)
                  refine wpQuiet_nil ?_
                  intro _ hw'
                  obtain ⟨pq, hw2'⟩ := hw'
                  subst hw2'
                  have HM9 := hide (HM6.out.below pq.below)
                  have HC9 := hide (HC6.out.bw pq)
                  have HB9 := hide (HB6.out.trans (pq.below.mono hbs.out))
                  clear k1 k2
                  go_wp2
                  go_roundw
                  case rel => exact ⟨k + 1, _, by omega, by go_num, HM9, HC9, HB9⟩
                  case measure => simp [intOf]; omega
                · rw [HNW.out hkn] at KN
                  have q1 : ((k : Int) == (Tx : Int) - 1) = false := by simpa using hkn
                  have q2 : ((k : Int) != (Tx : Int) - 1) = true := by simpa using hkn
                  clear hkn
                  go_upto_region 23 with (fail)
                  first | refine wp_region_belowS w6 (Below.refl _ _) ?_ | refine wp_region_below w6 (Below.refl _ _) (by kernel_rfl) (by kernel_rfl) ?_
                  repeat
                    first
                    | (go_big_quiet_step (first
                    | ((go_at_call 27; with_reducible exact Calls.bel (KG.out _)))
                    | ((go_at_call 10; with_reducible exact Calls.bel (KN.out _)))
                    | fail))
                    | (go_big_quiet_want; apply quiet_span; (intro p; go_simp; rfl); (try simp only [Act.put, List.setIfInBounds_toArray, List.set_cons_zero, List.set_cons_succ]); go_big_quiet_on)
                  refine wpQuiet_nil ?_
                  intro _ hw'
                  obtain ⟨pq, hw2'⟩ := hw'
                  subst hw2'
                  have HM9 := hide (HM6.out.below pq.below)
                  have HC9 := hide (HC6.out.bw pq)
                  have HB9 := hide (HB6.out.trans (pq.below.mono hbs.out))
                  clear k1 k2
                  go_wp2
                  go_roundw
                  case rel => exact ⟨k + 1, _, by omega, by go_num, HM9, HC9, HB9⟩
                  case measure => simp [intOf]; omega
              · obtain rfl : k = Tx := by omega
                go_wp2_with fail
                refine (KK.out _).mono ?_
                rintro e w9 ⟨rfl, b9⟩
                have B9 := hide (hbel.out.trans (b9.mono hbel.out.size))
                clear b9
                dsimp only
                go_wp2
                go_ret
                exact ⟨rfl, B9.out⟩
    · have hji : ¬ (k : Int) < (n1 : Int) := by omega
      clear hlt
      go_wp2
      go_loopw [12] (fun v wr => ∃ (k : Nat) (l1 l2 : List (Int × Int)), k ≤ n2 ∧ k ≤ 100 ∧ v = .int .i64 (k : Int) ∧ Hid (BackS wr w.heap.size g1 b1 g2 b2 N l1 l2) ∧ Hid (Below w.heap.size w wr)) (fun v _ => n2 - (intOf v).toNat)
      case atStart => exact ⟨0, l1, l2, by omega, by omega, rfl, hM, hbel⟩
      case round =>
        clear hM hbel hji hk hk100
        obtain ⟨k, l1, l2, hk, hk100, rfl, hM, hbel⟩ := hrel
        by_cases hlt : k < n2
        · have hji : (k : Int) < (n2 : Int) := by omega
          by_cases hlt2 : k < 100
          · have hj100 : (k : Int) < 100 := by omega
            have hkl : k < m.length := by rw [← HN2.out]; exact hlt
            obtain ⟨bl, off, rfl, hbl, hcl⟩ := HT.out (by omega)
            obtain ⟨h1, h2, h3⟩ := hcl k hkl
            obtain ⟨⟨K, s, i⟩, hy⟩ : ∃ y, y = m[k] := ⟨_, rfl⟩
            rw [← hy] at h1 h2 h3
            have KG := hide (fun W => given14_any W (s, i))
            have i1 := fun p : BW wr => p.cell ((hbel.out.cell (show (⟨bl, off + k * 4 + 1, none⟩ : Addr).block < w.heap.size from hbl)).trans h1)
            have i2 := fun p : BW wr => p.cell ((hbel.out.cell (show (⟨bl, off + k * 4 + 2, none⟩ : Addr).block < w.heap.size from hbl)).trans h2)
            have i3 := fun p : BW wr => p.cell ((hbel.out.cell (show (⟨bl, off + k * 4 + 2 + 1, none⟩ : Addr).block < w.heap.size from hbl)).trans h3)
            unfold infV infA at KG
            dsimp only at KG i1 i2 i3
            have hbs := hide hbel.out.size
            clear h1 h2 h3 hcl hbl hy hkl
            go_upto_region 13 with (fail)
            refine wp_region_quiet_tail wr (Below.refl _ _) 12 (by kernel_rfl) (by kernel_rfl) ?_
            simp only [List.append_eq, List.cons_append, List.nil_append, List.take_succ_cons, List.take_zero, List.drop_succ_cons, List.drop_zero]
            repeat
              first
              | (go_big_quiet_step (first
              | ((go_at_call 9; with_reducible exact Calls.bel (KG.out _)))
              | fail))
              | (go_big_quiet_want; apply quiet_span; (intro p; go_simp; rfl); (try simp only [Act.put, List.setIfInBounds_toArray, List.set_cons_zero, List.set_cons_succ]); go_big_quiet_on)
            refine wpQuiet_nil ?_
            intro _ hw'
            obtain ⟨pq, hw2'⟩ := hw'
            subst hw2'
            have HM5 := hide (hM.out.below pq.below)
            have HB5 := hide (hbel.out.trans (pq.below.mono hbs.out))
            obtain ⟨w5, hw5⟩ : ∃ W, W = pq.w := ⟨_, rfl⟩
            rw [← hw5] at HM5 HB5 ⊢
            clear i1 i2 i3 hM hbel hw5 pq
            have KH := hearV_any w5 g2 b2 ((N : Int) - 1) l2 K (s, i) HM5.out.u (HM5.out.au.has (by omega) (by omega))
            unfold infV infA at KH
            go_wp2_with fail
            refine KH.mono ?_
            rintro e w6 ⟨rfl, hv6, hg6⟩
            clear KH
            have HM6 := hide (HM5.out.hear2 hv6 hg6)
            have HB6 := hide (below_turn HB5.out hg6 HM5.out.far.2)
            clear hv6 hg6 HM5 HB5
            dsimp only
            go_wp2
            go_roundw
            case rel => exact ⟨k + 1, _, _, by omega, by omega, by go_num, HM6, HB6⟩
            case measure => simp [intOf]; omega
          · have hj100 : ¬ (k : Int) < 100 := by omega
            clear hlt
            have KB := hide (bytesV_any wr g1 b1 0 l1 hM.out.v (by rw [hM.out.av.len]; exact h16N) hM.out.av.right)
            have HQ := hide (res_back hM.out.av.right (by rw [hM.out.av.len]; exact h16N) (by rw [hM.out.av.len]; exact h1N))
            have HBL : Hid ((bytesI l1).length ≤ 140737488420864) := hide (by rw [bytesI_eq, List.length_append, length_numBytes, len_rows, hM.out.av.len]; omega)
            obtain ⟨BB, hBB⟩ : ∃ q, q = bytesI l1 := ⟨_, rfl⟩
            rw [← hBB] at KB HQ HBL
            clear hBB
            go_wp2_with fail
            refine KB.out.mono ?_
            rintro e w7 ⟨A7, c7, rfl, hown, hb7⟩
            obtain ⟨A8, c8, hv8, hl8, hby8, -, -⟩ := hown.shape
            cases hv8
            have KRd := hide (readM_any w7 A7 c7 BB hl8 HBL.out hby8)
            have HM7 := hide (hM.out.below hb7)
            have HB7 := hide (hbel.out.trans (hb7.mono hbel.out.size))
            clear hown hl8 hby8 hb7 KB HBL hM hbel hji hk hk100
            dsimp only
            go_wp2_with fail
            refine KRd.out.mono ?_
            rintro e w8 ⟨Ax, cx, Tx, hTx, rfl, -, hvx, hb8⟩
            rw [HQ.out.1, HM7.out.av.len] at hTx
            rw [HQ.out.1] at hvx
            rw [HQ.out.2]
            subst hTx
            have HM8 := hide (HM7.out.below hb8)
            have HB8 := hide (HB7.out.trans (hb8.mono HB7.out.size))
            obtain ⟨bx, ox, rfl, hbx, hcx⟩ := hvx (by rw [HM7.out.av.len]; omega)
            have HC : Hid (CX w8 bx ox l1) := hide hcx
            have HNE : Hid (bx ≠ b2) := hide (fun e => by
              have h1 := (hcx 0 (by rw [HM7.out.av.len]; omega)).1
              rw [e] at h1
              exact cell_not_map HM8.out.u.map h1)
            clear hvx hb8 hbx hcx HQ KRd HM7 HB7
            dsimp only
            go_wp2
            go_loopw [15] (fun v wr => ∃ (k : Nat) (l2 : List (Int × Int)), k ≤ Tx ∧ v = .int .i64 (k : Int) ∧ Hid (BackS wr w.heap.size g1 b1 g2 b2 Tx l1 l2) ∧ Hid (CX wr bx ox l1) ∧ Hid (Below w.heap.size w wr)) (fun v _ => Tx - (intOf v).toNat)
            case atStart => exact ⟨0, l2, by omega, rfl, HM8, HC, HB8⟩
            case round =>
              clear HM8 HB8 HC
              obtain ⟨k, l2, hk, rfl, hM, hC, hbel⟩ := hrel
              by_cases hlt : k < Tx
              · have hji : (k : Int) < (Tx : Int) := by omega
                have hkl : k < l1.length := by rw [hM.out.av.len]; exact hlt
                obtain ⟨h1, h2⟩ := hC.out k hkl
                have hga := getV_at hkl
                have hri := hM.out.av.right _ (List.getElem_mem hkl)
                obtain ⟨⟨s, i⟩, hy⟩ : ∃ y, y = l1[k] := ⟨_, rfl⟩
                rw [← hy] at h1 h2 hga hri
                have HRI := hide hri
                have KG := hide (fun p : BW wr => (by
                  have := getV_any p.w g1 b1 0 l1 (k : Int) (hM.out.v.bw p)
                  rw [hga.1] at this
                  exact this : Calls Try.prog 27 #[.pointer (some ⟨g1, 0, none⟩), .int .i64 (k : Int)] p.w (RetV p.w (infV (s, i)))))
                have i1 := fun p : BW wr => p.cell h1
                have i2 := fun p : BW wr => p.cell h2
                have hneq := fun W => neq_inf_self W s i
                unfold infV infA at KG
                dsimp only at KG i1 i2
                have hbs := hide hbel.out.size
                have HH1 := hide h1
                have HH2 := hide h2
                clear h1 h2 hga hri hy hkl
                go_upto_region 20 with (fail)
                first | refine wp_region_belowS wr (Below.refl _ _) ?_ | refine wp_region_below wr (Below.refl _ _) (by kernel_rfl) (by kernel_rfl) ?_
                repeat
                  first
                  | (go_big_quiet_step (first
                  | ((go_at_call 27; with_reducible exact Calls.bel (KG.out _)))
                  | fail))
                  | (go_big_quiet_want; apply quiet_span; (intro p; go_simp; rfl); (try simp only [Act.put, List.setIfInBounds_toArray, List.set_cons_zero, List.set_cons_succ]); go_big_quiet_on)
                refine wpQuiet_nil ?_
                intro _ hw'
                obtain ⟨pq, hw2'⟩ := hw'
                subst hw2'
                have HM5 := hide (hM.out.below pq.below)
                have HC5 := hide (hC.out.bw pq)
                have HB5 := hide (hbel.out.trans (pq.below.mono hbs.out))
                have j1 := i1 pq
                have j2 := i2 pq
                obtain ⟨w5, hw5⟩ : ∃ W, W = pq.w := ⟨_, rfl⟩
                rw [← hw5] at HM5 HC5 HB5 j1 j2 ⊢
                clear i1 i2 hM hbel hw5 hC pq KG HH1 HH2
                have KH := hearV_any w5 g2 b2 ((Tx : Int) - 1) l2 (k : Int) (s, i) HM5.out.u (HM5.out.au.has (by omega) (by omega))
                unfold infV infA at KH
                go_wp2_with fail
                refine KH.mono ?_
                rintro e w6 ⟨rfl, hv6, hg6⟩
                clear KH
                have HM6 := hide (HM5.out.hear2 hv6 hg6)
                have HC6 := hide (HC5.out.kept hg6 HNE.out)
                have HB6 := hide (below_turn HB5.out hg6 HM5.out.far.2)
                have HNW : Hid ((k : Int) ≠ (Tx : Int) - 1 → newerI (s, i) (getV (hearR l2 ((Tx : Int) - 1) (k : Int) (s, i)).2.2 (k : Int)) = false) := hide (fun h => hear_newer (HM5.out.au.has (by omega) (by omega)) HRI.out h)
                have k1 := fun p : BW w6 => p.cell ((cell_grown hg6 HNE.out j1))
                have k2 := fun p : BW w6 => p.cell ((cell_grown hg6 HNE.out j2))
                clear hv6 hg6 HM5 HB5 HC5 j1 j2
                dsimp only
                obtain ⟨l3, hl3⟩ : ∃ q, q = (hearR l2 ((Tx : Int) - 1) (k : Int) (s, i)).2.2 := ⟨_, rfl⟩
                rw [← hl3] at HM6 HNW
                have KG := hide (fun p : BW w6 => getV_any p.w g2 b2 ((Tx : Int) - 1) l3 (k : Int) (HM6.out.u.bw p))
                have KN := hide (fun W => newerI_any W (s, i) (getV l3 (k : Int)))
                obtain ⟨⟨t, j⟩, hgt⟩ : ∃ q, q = getV l3 (k : Int) := ⟨_, rfl⟩
                rw [← hgt] at KG KN HNW
                unfold infV infA at KG KN
                dsimp only at KG KN k1 k2
                clear hl3 hgt
                have hbs := hide HB6.out.size
                by_cases hkn : (k : Int) = (Tx : Int) - 1
                · have q1 : ((k : Int) == (Tx : Int) - 1) = true := by simpa using hkn
                  have q2 : ((k : Int) != (Tx : Int) - 1) = false := by simpa using hkn
                  clear hkn
                  go_upto_region 23 with (fail)
                  first | refine wp_region_belowS w6 (Below.refl _ _) ?_ | refine wp_region_below w6 (Below.refl _ _) (by kernel_rfl) (by kernel_rfl) ?_
                  repeat
                    first
                    | (go_big_quiet_step (first
                    | ((go_at_call 27; with_reducible exact Calls.bel (KG.out _)))
                    | ((go_at_call 10; with_reducible exact Calls.bel (KN.out _)))
                    | fail))
                    | (go_big_quiet_want; apply quiet_span; (intro p; go_simp; rfl); (try simp only [Act.put, List.setIfInBounds_toArray, List.set_cons_zero, List.set_cons_succ]); go_big_quiet_on)
                  refine wpQuiet_nil ?_
                  intro _ hw'
                  obtain ⟨pq, hw2'⟩ := hw'
                  subst hw2'
                  have HM9 := hide (HM6.out.below pq.below)
                  have HC9 := hide (HC6.out.bw pq)
                  have HB9 := hide (HB6.out.trans (pq.below.mono hbs.out))
                  clear k1 k2
                  go_wp2
                  go_roundw
                  case rel => exact ⟨k + 1, _, by omega, by go_num, HM9, HC9, HB9⟩
                  case measure => simp [intOf]; omega
                · rw [HNW.out hkn] at KN
                  have q1 : ((k : Int) == (Tx : Int) - 1) = false := by simpa using hkn
                  have q2 : ((k : Int) != (Tx : Int) - 1) = true := by simpa using hkn
                  clear hkn
                  go_upto_region 23 with (fail)
                  first | refine wp_region_belowS w6 (Below.refl _ _) ?_ | refine wp_region_below w6 (Below.refl _ _) (by kernel_rfl) (by kernel_rfl) ?_
                  repeat
                    first
                    | (go_big_quiet_step (first
                    | ((go_at_call 27; with_reducible exact Calls.bel (KG.out _)))
                    | ((go_at_call 10; with_reducible exact Calls.bel (KN.out _)))
                    | fail))
                    | (go_big_quiet_want; apply quiet_span; (intro p; go_simp; rfl); (try simp only [Act.put, List.setIfInBounds_toArray, List.set_cons_zero, List.set_cons_succ]); go_big_quiet_on)
                  refine wpQuiet_nil ?_
                  intro _ hw'
                  obtain ⟨pq, hw2'⟩ := hw'
                  subst hw2'
                  have HM9 := hide (HM6.out.below pq.below)
                  have HC9 := hide (HC6.out.bw pq)
                  have HB9 := hide (HB6.out.trans (pq.below.mono hbs.out))
                  clear k1 k2
                  go_wp2
                  go_roundw
                  case rel => exact ⟨k + 1, _, by omega, by go_num, HM9, HC9, HB9⟩
                  case measure => simp [intOf]; omega
              · obtain rfl : k = Tx := by omega
                go_wp2_with fail
                refine (KK.out _).mono ?_
                rintro e w9 ⟨rfl, b9⟩
                have B9 := hide (hbel.out.trans (b9.mono hbel.out.size))
                clear b9
                dsimp only
                go_wp2
                go_ret
                exact ⟨rfl, B9.out⟩
        · have hji : ¬ (k : Int) < (n2 : Int) := by omega
          clear hlt
          have KB := hide (bytesV_any wr g1 b1 0 l1 hM.out.v (by rw [hM.out.av.len]; exact h16N) hM.out.av.right)
          have HQ := hide (res_back hM.out.av.right (by rw [hM.out.av.len]; exact h16N) (by rw [hM.out.av.len]; exact h1N))
          have HBL : Hid ((bytesI l1).length ≤ 140737488420864) := hide (by rw [bytesI_eq, List.length_append, length_numBytes, len_rows, hM.out.av.len]; omega)
          obtain ⟨BB, hBB⟩ : ∃ q, q = bytesI l1 := ⟨_, rfl⟩
          rw [← hBB] at KB HQ HBL
          clear hBB
          go_wp2_with fail
          refine KB.out.mono ?_
          rintro e w7 ⟨A7, c7, rfl, hown, hb7⟩
          obtain ⟨A8, c8, hv8, hl8, hby8, -, -⟩ := hown.shape
          cases hv8
          have KRd := hide (readM_any w7 A7 c7 BB hl8 HBL.out hby8)
          have HM7 := hide (hM.out.below hb7)
          have HB7 := hide (hbel.out.trans (hb7.mono hbel.out.size))
          clear hown hl8 hby8 hb7 KB HBL hM hbel hji hk hk100
          dsimp only
          go_wp2_with fail
          refine KRd.out.mono ?_
          rintro e w8 ⟨Ax, cx, Tx, hTx, rfl, -, hvx, hb8⟩
          rw [HQ.out.1, HM7.out.av.len] at hTx
          rw [HQ.out.1] at hvx
          rw [HQ.out.2]
          subst hTx
          have HM8 := hide (HM7.out.below hb8)
          have HB8 := hide (HB7.out.trans (hb8.mono HB7.out.size))
          obtain ⟨bx, ox, rfl, hbx, hcx⟩ := hvx (by rw [HM7.out.av.len]; omega)
          have HC : Hid (CX w8 bx ox l1) := hide hcx
          have HNE : Hid (bx ≠ b2) := hide (fun e => by
            have h1 := (hcx 0 (by rw [HM7.out.av.len]; omega)).1
            rw [e] at h1
            exact cell_not_map HM8.out.u.map h1)
          clear hvx hb8 hbx hcx HQ KRd HM7 HB7
          dsimp only
          go_wp2
          go_loopw [15] (fun v wr => ∃ (k : Nat) (l2 : List (Int × Int)), k ≤ Tx ∧ v = .int .i64 (k : Int) ∧ Hid (BackS wr w.heap.size g1 b1 g2 b2 Tx l1 l2) ∧ Hid (CX wr bx ox l1) ∧ Hid (Below w.heap.size w wr)) (fun v _ => Tx - (intOf v).toNat)
          case atStart => exact ⟨0, l2, by omega, rfl, HM8, HC, HB8⟩
          case round =>
            clear HM8 HB8 HC
            obtain ⟨k, l2, hk, rfl, hM, hC, hbel⟩ := hrel
            by_cases hlt : k < Tx
            · have hji : (k : Int) < (Tx : Int) := by omega
              have hkl : k < l1.length := by rw [hM.out.av.len]; exact hlt
              obtain ⟨h1, h2⟩ := hC.out k hkl
              have hga := getV_at hkl
              have hri := hM.out.av.right _ (List.getElem_mem hkl)
              obtain ⟨⟨s, i⟩, hy⟩ : ∃ y, y = l1[k] := ⟨_, rfl⟩
              rw [← hy] at h1 h2 hga hri
              have HRI := hide hri
              have KG := hide (fun p : BW wr => (by
                have := getV_any p.w g1 b1 0 l1 (k : Int) (hM.out.v.bw p)
                rw [hga.1] at this
                exact this : Calls Try.prog 27 #[.pointer (some ⟨g1, 0, none⟩), .int .i64 (k : Int)] p.w (RetV p.w (infV (s, i)))))
              have i1 := fun p : BW wr => p.cell h1
              have i2 := fun p : BW wr => p.cell h2
              have hneq := fun W => neq_inf_self W s i
              unfold infV infA at KG
              dsimp only at KG i1 i2
              have hbs := hide hbel.out.size
              have HH1 := hide h1
              have HH2 := hide h2
              clear h1 h2 hga hri hy hkl
              go_upto_region 20 with (fail)
              first | refine wp_region_belowS wr (Below.refl _ _) ?_ | refine wp_region_below wr (Below.refl _ _) (by kernel_rfl) (by kernel_rfl) ?_
              repeat
                first
                | (go_big_quiet_step (first
                | ((go_at_call 27; with_reducible exact Calls.bel (KG.out _)))
                | fail))
                | (go_big_quiet_want; apply quiet_span; (intro p; go_simp; rfl); (try simp only [Act.put, List.setIfInBounds_toArray, List.set_cons_zero, List.set_cons_succ]); go_big_quiet_on)
              refine wpQuiet_nil ?_
              intro _ hw'
              obtain ⟨pq, hw2'⟩ := hw'
              subst hw2'
              have HM5 := hide (hM.out.below pq.below)
              have HC5 := hide (hC.out.bw pq)
              have HB5 := hide (hbel.out.trans (pq.below.mono hbs.out))
              have j1 := i1 pq
              have j2 := i2 pq
              obtain ⟨w5, hw5⟩ : ∃ W, W = pq.w := ⟨_, rfl⟩
              rw [← hw5] at HM5 HC5 HB5 j1 j2 ⊢
              clear i1 i2 hM hbel hw5 hC pq KG HH1 HH2
              have KH := hearV_any w5 g2 b2 ((Tx : Int) - 1) l2 (k : Int) (s, i) HM5.out.u (HM5.out.au.has (by omega) (by omega))
              unfold infV infA at KH
              go_wp2_with fail
              refine KH.mono ?_
              rintro e w6 ⟨rfl, hv6, hg6⟩
              clear KH
              have HM6 := hide (HM5.out.hear2 hv6 hg6)
              have HC6 := hide (HC5.out.kept hg6 HNE.out)
              have HB6 := hide (below_turn HB5.out hg6 HM5.out.far.2)
              have HNW : Hid ((k : Int) ≠ (Tx : Int) - 1 → newerI (s, i) (getV (hearR l2 ((Tx : Int) - 1) (k : Int) (s, i)).2.2 (k : Int)) = false) := hide (fun h => hear_newer (HM5.out.au.has (by omega) (by omega)) HRI.out h)
              have k1 := fun p : BW w6 => p.cell ((cell_grown hg6 HNE.out j1))
              have k2 := fun p : BW w6 => p.cell ((cell_grown hg6 HNE.out j2))
              clear hv6 hg6 HM5 HB5 HC5 j1 j2
              dsimp only
              obtain ⟨l3, hl3⟩ : ∃ q, q = (hearR l2 ((Tx : Int) - 1) (k : Int) (s, i)).2.2 := ⟨_, rfl⟩
              rw [← hl3] at HM6 HNW
              have KG := hide (fun p : BW w6 => getV_any p.w g2 b2 ((Tx : Int) - 1) l3 (k : Int) (HM6.out.u.bw p))
              have KN := hide (fun W => newerI_any W (s, i) (getV l3 (k : Int)))
              obtain ⟨⟨t, j⟩, hgt⟩ : ∃ q, q = getV l3 (k : Int) := ⟨_, rfl⟩
              rw [← hgt] at KG KN HNW
              unfold infV infA at KG KN
              dsimp only at KG KN k1 k2
              clear hl3 hgt
              have hbs := hide HB6.out.size
              by_cases hkn : (k : Int) = (Tx : Int) - 1
              · have q1 : ((k : Int) == (Tx : Int) - 1) = true := by simpa using hkn
                have q2 : ((k : Int) != (Tx : Int) - 1) = false := by simpa using hkn
                clear hkn
                go_upto_region 23 with (fail)
                first | refine wp_region_belowS w6 (Below.refl _ _) ?_ | refine wp_region_below w6 (Below.refl _ _) (by kernel_rfl) (by kernel_rfl) ?_
                repeat
                  first
                  | (go_big_quiet_step (first
                  | ((go_at_call 27; with_reducible exact Calls.bel (KG.out _)))
                  | ((go_at_call 10; with_reducible exact Calls.bel (KN.out _)))
                  | fail))
                  | (go_big_quiet_want; apply quiet_span; (intro p; go_simp; rfl); (try simp only [Act.put, List.setIfInBounds_toArray, List.set_cons_zero, List.set_cons_succ]); go_big_quiet_on)
                refine wpQuiet_nil ?_
                intro _ hw'
                obtain ⟨pq, hw2'⟩ := hw'
                subst hw2'
                have HM9 := hide (HM6.out.below pq.below)
                have HC9 := hide (HC6.out.bw pq)
                have HB9 := hide (HB6.out.trans (pq.below.mono hbs.out))
                clear k1 k2
                go_wp2
                go_roundw
                case rel => exact ⟨k + 1, _, by omega, by go_num, HM9, HC9, HB9⟩
                case measure => simp [intOf]; omega
              · rw [HNW.out hkn] at KN
                have q1 : ((k : Int) == (Tx : Int) - 1) = false := by simpa using hkn
                have q2 : ((k : Int) != (Tx : Int) - 1) = true := by simpa using hkn
                clear hkn
                go_upto_region 23 with (fail)
                first | refine wp_region_belowS w6 (Below.refl _ _) ?_ | refine wp_region_below w6 (Below.refl _ _) (by kernel_rfl) (by kernel_rfl) ?_
                repeat
                  first
                  | (go_big_quiet_step (first
                  | ((go_at_call 27; with_reducible exact Calls.bel (KG.out _)))
                  | ((go_at_call 10; with_reducible exact Calls.bel (KN.out _)))
                  | fail))
                  | (go_big_quiet_want; apply quiet_span; (intro p; go_simp; rfl); (try simp only [Act.put, List.setIfInBounds_toArray, List.set_cons_zero, List.set_cons_succ]); go_big_quiet_on)
                refine wpQuiet_nil ?_
                intro _ hw'
                obtain ⟨pq, hw2'⟩ := hw'
                subst hw2'
                have HM9 := hide (HM6.out.below pq.below)
                have HC9 := hide (HC6.out.bw pq)
                have HB9 := hide (HB6.out.trans (pq.below.mono hbs.out))
                clear k1 k2
                go_wp2
                go_roundw
                case rel => exact ⟨k + 1, _, by omega, by go_num, HM9, HC9, HB9⟩
                case measure => simp [intOf]; omega
            · obtain rfl : k = Tx := by omega
              go_wp2_with fail
              refine (KK.out _).mono ?_
              rintro e w9 ⟨rfl, b9⟩
              have B9 := hide (hbel.out.trans (b9.mono hbel.out.size))
              clear b9
              dsimp only
              go_wp2
              go_ret
              exact ⟨rfl, B9.out⟩
end Go.Proofs.Ytpbgbfmpjgkllaa
