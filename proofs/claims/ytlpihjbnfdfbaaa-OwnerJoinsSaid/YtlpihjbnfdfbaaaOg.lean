/-
  The walks of List, the program's and the document's, and of lists held against one another.
-/
import Derived.Test.YtlpihjbnfdfbaaaOf
namespace Go.Proofs.Ytlpihjbnfdfbaaa
open Go.RowKit
set_option linter.unusedVariables false
set_option maxRecDepth 100000

def okM (z : Int) : Bool := decide (0 ≤ z ∧ z < 65536)
def listV (z : Int) : List Nat := if okM z = true then listM z.toNat 16 else []
def listE (z : Int) : Int := if okM z = true then 0 else 1
def ListPost (w : World) (z : Int) (e : Ending) (w' : World) : Prop :=
  ∃ v, e = .returned (.tuple #[v, .int .i64 (listE z)]) ∧ OwnR w' w.heap.size 3 v ((listV z).map inV) ∧ Below w.heap.size w w'
theorem ListPost.no {w w' : World} {z : Int} (hr : okM z = false) (hb : Below w.heap.size w w') : ListPost w z (.returned (.tuple #[.slice none 0 0, .int .i64 1])) w' := by
  refine ⟨.slice none 0 0, ?_, ?_, hb⟩
  · unfold listE; rw [hr]; rfl
  · unfold listV; rw [hr]; exact OwnR.nil _ _ _
theorem ListPost.yes {w w' : World} {n : Nat} {v : Value} (hn : n < 65536) (hb : Below w.heap.size w w') (ho : OwnR w' w.heap.size 3 v ((listM n 16).map inV)) : ListPost w (n : Int) (.returned (.tuple #[v, .int .i64 0])) w' := by
  have hk : okM (n : Int) = true := decide_eq_true (by omega)
  refine ⟨v, ?_, ?_, hb⟩
  · unfold listE; rw [if_pos hk]
  · unfold listV; rw [if_pos hk]; exact ho
theorem natI_snoc (l : List Nat) (k : Nat) : natI (l ++ [k]) = natI l ++ [(k : Int)] := by simp [natI]
theorem shr_nat (n x : Nat) : (n : Int) / 2 ^ x = ((n / 2 ^ x : Nat) : Int) := by simp
theorem and_one (n : Nat) (hn : n < 65536) (x : Nat) : bits BinOp.and IntKind.i64 ((n : Int) / 2 ^ x) 1 = ((n / 2 ^ x % 2 : Nat) : Int) := by
  have h : n / 2 ^ x ≤ n := Nat.div_le_self _ _
  rw [shr_nat, show (1 : Int) = ((1 : Nat) : Int) from rfl, i64_and_nat _ _ (by omega) (by omega), Nat.and_one_is_mod]

set_option maxHeartbeats 4000000 in
theorem list_any (w : World) (z : Int) (hz0 : -9223372036854775808 ≤ z) (hz1 : z ≤ 9223372036854775807) :
    Calls Try.prog 20 #[.int .i64 z] w (ListPost w z) := by
  by_cases c1 : z < 0
  · have HF := hide (fun w' hb => ListPost.no (w := w) (w' := w') (z := z) (decide_eq_false (by omega)) hb)
    go_enter Try.func20, Try.ntmps20
    go_wp2
    go_ret2
    exact HF.out _ (Below.refl _ _)
  · by_cases c2 : z ≥ 65536
    · have HF := hide (fun w' hb => ListPost.no (w := w) (w' := w') (z := z) (decide_eq_false (by omega)) hb)
      go_enter Try.func20, Try.ntmps20
      go_wp2
      go_ret2
      exact HF.out _ (Below.refl _ _)
    · obtain ⟨n, hzn⟩ : ∃ n : Nat, z = (n : Int) := ⟨z.toNat, by omega⟩
      have hn : n < 65536 := by omega
      have HZN := hide hzn
      clear hzn
      clear hz0 hz1
      go_enter Try.func20, Try.ntmps20
      go_wp2
      go_loopw [4, 12] (fun u v wr => ∃ k : Nat, k ≤ 16 ∧ v = .int .i64 (k : Int) ∧ Hid (OwnR wr w.heap.size 3 u ((natI (listM n k)).map izV)) ∧ Hid (Below w.heap.size w wr)) (fun _ v _ => 16 - (intOf v).toNat)
      case atStart => exact ⟨0, by omega, rfl, hide (OwnR.nil _ _ _), hide (Below.refl _ _)⟩
      case round =>
        obtain ⟨k, hk, rfl, hown, hbel⟩ := hrel
        by_cases hlt : k < 16
        · have hand := and_one n hn k
          rw [← HZN.out] at hand
          have hsucc := listM_succ n k
          have hbit : bitN n k = (n / 2 ^ k % 2 == 1) := rfl
          have hlen := listM_len n k
          obtain ⟨r, hr⟩ : ∃ r, r = n / 2 ^ k % 2 := ⟨_, rfl⟩
          rw [← hr] at hand hbit
          clear hr
          cases hb : bitN n k
          · rw [hb] at hbit hsucc
            rw [if_neg (by simp)] at hsucc
            have h1 : ((r : Int) == 1) = false := by
              have : r ≠ 1 := by simpa using hbit.symm
              simp; omega
            have HS := hide hsucc
            clear hsucc hbit hb hlen
            go_wp2
            go_roundw
            case rel => exact ⟨k + 1, by omega, by go_num, hide (by rw [HS.out]; exact hown.out), hbel⟩
            case measure => simp [intOf]; omega
          · rw [hb] at hbit hsucc
            rw [if_pos rfl] at hsucc
            have h1 : ((r : Int) == 1) = true := by
              have : r = 1 := by simpa using hbit.symm
              simp; omega
            have HS := hide hsucc
            have hL : Hid (IntS (wr.alloc (.cells #[.int .i64 (k : Int)] 3)) (wr.heap.size + 1) (some ⟨wr.heap.size, 0, none⟩) [(k : Int)]) := hide (IntS.lit wr [(k : Int)] #[.int .i64 (k : Int)] 3 (0, 0) rfl)
            have hO := hide (hown.out.alloc (.cells #[.int .i64 (k : Int)] 3))
            have hZ : Hid (w.heap.size ≤ (wr.alloc (.cells #[.int .i64 (k : Int)] 3)).heap.size) := hide (by have := hbel.out.size; simp; omega)
            have hbs := hide hbel.out.size
            clear hsucc hbit hb
            go_wp2_with (at_builtin; refine wpList_app_ints rfl (.tmp 20) (.tmp 22) rfl w.heap.size _ (natI (listM n k)) [(k : Int)] (wr.heap.size + 1) 1 (some ⟨wr.heap.size, 0, none⟩) rfl rfl hO.out hL.out (fun e => by cases e) (by rw [natI_len]; simp; omega) hZ.out ?_)
            intro v5 w5 hown5 hgrow5 hat5
            have HO5 : Hid (OwnR w5 w.heap.size 3 v5 ((natI (listM n (k + 1))).map izV)) := hide (by rw [HS.out, natI_snoc, List.map_append]; exact hown5)
            have HB5 : Hid (Below w.heap.size w w5) := hide ((hbel.out.alloc hbs.out _).grown hgrow5 hZ.out (fun g hg => (hown.out.at g hg).1))
            clear hown5 hgrow5 hat5 hL hO hZ hown hbel
            go_wp2
            go_roundw
            case rel => exact ⟨k + 1, by omega, by go_num, HO5, HB5⟩
            case measure => simp [intOf]; omega
        · obtain rfl : k = 16 := by omega
          have HF : Hid (∀ v, OwnR wr w.heap.size 3 v ((natI (listM n 16)).map izV) → ListPost w z (.returned (.tuple #[v, .int .i64 0])) wr) := hide fun v h => by rw [HZN.out]; exact ListPost.yes hn hbel.out (by rw [← natI_inV]; exact h)
          clear hlt hbel
          go_wp2
          go_ret2
          exact HF.out _ hown.out

set_option maxHeartbeats 4000000 in
theorem reflist_any (w : World) (z : Int) (hz0 : -9223372036854775808 ≤ z) (hz1 : z ≤ 9223372036854775807) :
    Calls Try.prog 21 #[.int .i64 z] w (ListPost w z) := by
  by_cases c1 : z < 0
  · have HF := hide (fun w' hb => ListPost.no (w := w) (w' := w') (z := z) (decide_eq_false (by omega)) hb)
    go_enter Try.func21, Try.ntmps21
    go_wp2
    go_ret2
    exact HF.out _ (Below.refl _ _)
  · by_cases c2 : z > 65535
    · have HF := hide (fun w' hb => ListPost.no (w := w) (w' := w') (z := z) (decide_eq_false (by omega)) hb)
      go_enter Try.func21, Try.ntmps21
      go_wp2
      go_ret2
      exact HF.out _ (Below.refl _ _)
    · obtain ⟨n, hzn⟩ : ∃ n : Nat, z = (n : Int) := ⟨z.toNat, by omega⟩
      have hn : n < 65536 := by omega
      have HZN := hide hzn
      clear hzn
      clear hz0 hz1
      go_enter Try.func21, Try.ntmps21
      go_wp2
      go_loopw [4, 5] (fun u v wr => ∃ k : Nat, k ≤ 16 ∧ v = .int .i64 (k : Int) ∧ Hid (OwnR wr w.heap.size 3 u ((natI (listM n k)).map izV)) ∧ Hid (Below w.heap.size w wr)) (fun _ v _ => 16 - (intOf v).toNat)
      case atStart => exact ⟨0, by omega, rfl, hide (OwnR.nil _ _ _), hide (Below.refl _ _)⟩
      case round =>
        obtain ⟨k, hk, rfl, hown, hbel⟩ := hrel
        by_cases hlt : k < 16
        · have hand := and_one n hn k
          rw [← HZN.out] at hand
          have hsucc := listM_succ n k
          have hbit : bitN n k = (n / 2 ^ k % 2 == 1) := rfl
          have hlen := listM_len n k
          have wx : IntKind.u64.wrap (k : Int) = (k : Int) := Go.IntWalk.u64_in _ (by omega)
          obtain ⟨r, hr⟩ : ∃ r, r = n / 2 ^ k % 2 := ⟨_, rfl⟩
          rw [← hr] at hand hbit
          clear hr
          cases hb : bitN n k
          · rw [hb] at hbit hsucc
            rw [if_neg (by simp)] at hsucc
            have h1 : ((r : Int) == 1) = false := by
              have : r ≠ 1 := by simpa using hbit.symm
              simp; omega
            have HS := hide hsucc
            clear hsucc hbit hb hlen
            go_wp2
            go_roundw
            case rel => exact ⟨k + 1, by omega, by go_num, hide (by rw [HS.out]; exact hown.out), hbel⟩
            case measure => simp [intOf]; omega
          · rw [hb] at hbit hsucc
            rw [if_pos rfl] at hsucc
            have h1 : ((r : Int) == 1) = true := by
              have : r = 1 := by simpa using hbit.symm
              simp; omega
            have HS := hide hsucc
            have hL : Hid (IntS (wr.alloc (.cells #[.int .i64 (k : Int)] 3)) (wr.heap.size + 1) (some ⟨wr.heap.size, 0, none⟩) [(k : Int)]) := hide (IntS.lit wr [(k : Int)] #[.int .i64 (k : Int)] 3 (0, 0) rfl)
            have hO := hide (hown.out.alloc (.cells #[.int .i64 (k : Int)] 3))
            have hZ : Hid (w.heap.size ≤ (wr.alloc (.cells #[.int .i64 (k : Int)] 3)).heap.size) := hide (by have := hbel.out.size; simp; omega)
            have hbs := hide hbel.out.size
            clear hsucc hbit hb
            go_wp2_with (at_builtin; refine wpList_app_ints rfl (.tmp 22) (.tmp 24) rfl w.heap.size _ (natI (listM n k)) [(k : Int)] (wr.heap.size + 1) 1 (some ⟨wr.heap.size, 0, none⟩) rfl rfl hO.out hL.out (fun e => by cases e) (by rw [natI_len]; simp; omega) hZ.out ?_)
            intro v5 w5 hown5 hgrow5 hat5
            have HO5 : Hid (OwnR w5 w.heap.size 3 v5 ((natI (listM n (k + 1))).map izV)) := hide (by rw [HS.out, natI_snoc, List.map_append]; exact hown5)
            have HB5 : Hid (Below w.heap.size w w5) := hide ((hbel.out.alloc hbs.out _).grown hgrow5 hZ.out (fun g hg => (hown.out.at g hg).1))
            clear hown5 hgrow5 hat5 hL hO hZ hown hbel
            go_wp2
            go_roundw
            case rel => exact ⟨k + 1, by omega, by go_num, HO5, HB5⟩
            case measure => simp [intOf]; omega
        · obtain rfl : k = 16 := by omega
          have HF : Hid (∀ v, OwnR wr w.heap.size 3 v ((natI (listM n 16)).map izV) → ListPost w z (.returned (.tuple #[v, .int .i64 0])) wr) := hide fun v h => by rw [HZN.out]; exact ListPost.yes hn hbel.out (by rw [← natI_inV]; exact h)
          clear hlt hbel
          go_wp2
          go_ret2
          exact HF.out _ hown.out

/-! lists held against one another -/
def neD (l m : List Int) (i : Nat) : Bool := l.getD i 0 != m.getD i 0
def movedN (l m : List Int) (k : Nat) : Nat := (List.range k).countP (neD l m)
theorem movedN_succ (l m : List Int) (k : Nat) : movedN l m (k + 1) = movedN l m k + if neD l m k = true then 1 else 0 := by
  unfold movedN
  rw [List.range_succ, List.countP_append, List.countP_singleton]
theorem movedN_le (l m : List Int) (k : Nat) : movedN l m k ≤ k := by
  have := List.countP_le_length (p := neD l m) (l := List.range k)
  rw [List.length_range] at this; exact this
theorem neD_at {l m : List Int} {k : Nat} (h1 : k < l.length) (h2 : k < m.length) : neD l m k = (l[k] != m[k]) := by
  unfold neD
  rw [List.getD_eq_getElem?_getD, List.getD_eq_getElem?_getD, List.getElem?_eq_getElem h1, List.getElem?_eq_getElem h2]; rfl
theorem movedN_zero {l m : List Int} (h : l.length = m.length) : movedN l m l.length = 0 ↔ l = m := by
  unfold movedN
  rw [List.countP_eq_zero]
  constructor
  · intro hh
    apply List.ext_getElem h
    intro i h1 h2
    have := hh i (List.mem_range.2 h1)
    rw [neD_at h1 h2] at this
    simpa using this
  · rintro rfl
    intro i _; simp [neD]
def movedV (l m : List Int) : Nat := if l.length = m.length then movedN l m l.length else 0
def movedE (l m : List Int) : Int := if l.length = m.length then 0 else 1
def MovedPost (w : World) (l m : List Int) (e : Ending) (w' : World) : Prop := e = .returned (.tuple #[.int .i64 (movedV l m : Int), .int .i64 (movedE l m)]) ∧ Below w.heap.size w w'
theorem MovedPost.yes {w w' : World} {l m : List Int} {n : Nat} (hn : n = l.length) (h : l.length = m.length) (hb : Below w.heap.size w w') : MovedPost w l m (.returned (.tuple #[.int .i64 (movedN l m n : Int), .int .i64 0])) w' := by
  refine ⟨?_, hb⟩
  unfold movedV movedE
  rw [if_pos h, if_pos h, hn]

set_option maxHeartbeats 4000000 in
theorem moved_any (w : World) (B1 B2 : Nat) (A1 A2 : Option Addr) (c1 c2 : Nat) (l m : List Int) (hl : l.length ≤ 17592186044416) (hm : m.length ≤ 17592186044416) (hb1 : IntS w B1 A1 l) (hb2 : IntS w B2 A2 m) :
    Calls Try.prog 45 #[.slice A1 l.length c1, .slice A2 m.length c2] w (MovedPost w l m) := by
  obtain ⟨n, hn⟩ : ∃ n, n = l.length := ⟨_, rfl⟩
  obtain ⟨n2, hn2⟩ : ∃ n2, n2 = m.length := ⟨_, rfl⟩
  have HN := hide hn
  have HN2 := hide hn2
  have H1 := hide hb1
  have H2 := hide hb2
  rw [← hn] at hl ⊢
  rw [← hn2] at hm ⊢
  clear hn hn2 hb1 hb2
  by_cases heq : n = n2
  · subst heq
    have HF := hide (fun w' hb => MovedPost.yes (w := w) (w' := w') (l := l) (m := m) (n := n) HN.out (by rw [← HN.out, HN2.out]) hb)
    have HLE : Hid (∀ k, movedN l m k ≤ k) := hide (movedN_le l m)
    go_enter Try.func45, Try.ntmps45
    go_wp2
    go_loopw [6, 7] (fun u v wr => ∃ k q : Nat, k ≤ n ∧ u = .int .i64 (movedN l m k : Int) ∧ v = .int .i64 (k : Int) ∧ Hid (wr = w.drewN q)) (fun _ v _ => n - (intOf v).toNat)
    case atStart => exact ⟨0, 0, by omega, rfl, rfl, hide rfl⟩
    case round =>
      obtain ⟨k, q, hk, rfl, rfl, hwr⟩ := hrel
      by_cases hlt : k < n
      · have hkl : k < l.length := by rw [← HN.out]; exact hlt
        have hkm : k < m.length := by rw [← HN2.out]; exact hlt
        obtain ⟨b1, o1, rfl, _, hc1⟩ := H1.out (by omega)
        obtain ⟨b2, o2, rfl, _, hc2⟩ := H2.out (by omega)
        have h1 : wr.cell? ⟨b1, o1 + k, none⟩ = some (.int .i64 l[k]) := by rw [hwr.out]; exact hc1 k hkl
        have h2 : wr.cell? ⟨b2, o2 + k, none⟩ = some (.int .i64 m[k]) := by rw [hwr.out]; exact hc2 k hkm
        have hs := movedN_succ l m k
        have hr2 := neD_at hkl hkm
        obtain ⟨x, hx⟩ : ∃ x, x = l[k] := ⟨_, rfl⟩
        obtain ⟨y, hy⟩ : ∃ y, y = m[k] := ⟨_, rfl⟩
        rw [← hx] at h1 hr2
        rw [← hy] at h2 hr2
        have hle := HLE.out k
        obtain ⟨t, ht⟩ : ∃ t, t = movedN l m k := ⟨_, rfl⟩
        rw [← ht] at hs hle ⊢
        have hji : (k : Int) < (n : Int) := by omega
        obtain ⟨r, hr⟩ : ∃ r, r = neD l m k := ⟨_, rfl⟩
        rw [← hr] at hs hr2
        have hr3 := hr2.symm
        have HS := hide hs
        clear hc1 hc2 hx hy ht hs hkl hkm hr hr2
        cases r
        · go_wp2
          go_quiet (fail)
          go_wp2
          go_roundw
          case rel => exact ⟨k + 1, q + nq, by omega, by rw [HS.out]; rfl, by go_num, hide (by rw [hwr.out, World.drewN_drewN])⟩
          case measure => simp [intOf]; omega
        · go_wp2
          go_quiet (fail)
          go_wp2
          go_roundw
          case rel => exact ⟨k + 1, q + nq, by omega, by rw [HS.out]; go_num, by go_num, hide (by rw [hwr.out, World.drewN_drewN])⟩
          case measure => simp [intOf]; omega
      · obtain rfl : k = n := by omega
        have HG := hide (HF.out wr (by rw [hwr.out]; exact below_drewN (Below.refl _ _) _))
        clear hlt
        go_wp2
        go_ret2
        exact HG.out
  · have HF : Hid (MovedPost w l m (.returned (.tuple #[.int .i64 0, .int .i64 1])) w) := hide ⟨by unfold movedV movedE; rw [if_neg (by rw [← HN.out, ← HN2.out]; exact heq), if_neg (by rw [← HN.out, ← HN2.out]; exact heq)]; rfl, Below.refl _ _⟩
    have hne : ((n : Int) != (n2 : Int)) = true := by simp; omega
    go_enter Try.func45, Try.ntmps45
    go_wp2
    go_ret2
    exact HF.out
def SamePost (w : World) (l m : List Int) (e : Ending) (w' : World) : Prop := e = .returned (.bool (decide (l = m))) ∧ Below w.heap.size w w'
set_option maxHeartbeats 2000000 in
theorem sameI_any (w : World) (B1 B2 : Nat) (A1 A2 : Option Addr) (c1 c2 : Nat) (l m : List Int) (hl : l.length ≤ 17592186044416) (hm : m.length ≤ 17592186044416) (hb1 : IntS w B1 A1 l) (hb2 : IntS w B2 A2 m) :
    Calls Try.prog 16 #[.slice A1 l.length c1, .slice A2 m.length c2] w (SamePost w l m) := by
  have K := hide (moved_any w B1 B2 A1 A2 c1 c2 l m hl hm hb1 hb2)
  unfold MovedPost at K
  obtain ⟨n, hn⟩ : ∃ n, n = l.length := ⟨_, rfl⟩
  obtain ⟨n2, hn2⟩ : ∃ n2, n2 = m.length := ⟨_, rfl⟩
  have hv : movedV l m = if l.length = m.length then movedN l m l.length else 0 := rfl
  have he : movedE l m = if l.length = m.length then 0 else 1 := rfl
  by_cases h : l.length = m.length
  · rw [if_pos h] at hv he
    by_cases hlm : l = m
    · have hz := (movedN_zero h).2 hlm
      have HF : Hid (∀ w', Below w.heap.size w w' → SamePost w l m (.returned (.bool true)) w') := hide fun w' hb => ⟨by rw [decide_eq_true hlm], hb⟩
      rw [hv, he, hz] at K
      rw [← hn, ← hn2] at K ⊢
      clear hn hn2 hv he h hz hlm hb1 hb2
      go_enter Try.func16, Try.ntmps16
      go_wp2_with (first | ((with_reducible refine K.out.mono ?_); rintro e w1 ⟨rfl, hb1⟩; have HB := hide hb1; clear hb1) | fail)
      go_ret
      exact HF.out _ HB.out
    · have hz : movedN l m l.length ≠ 0 := fun e => hlm ((movedN_zero h).1 e)
      have HF : Hid (∀ w', Below w.heap.size w w' → SamePost w l m (.returned (.bool false)) w') := hide fun w' hb => ⟨by rw [decide_eq_false hlm], hb⟩
      obtain ⟨t, ht⟩ : ∃ t, t = movedN l m l.length := ⟨_, rfl⟩
      rw [← ht] at hz
      rw [hv, he, ← ht] at K
      rw [← hn, ← hn2] at K ⊢
      have hz2 : ((t : Int) == 0) = false := by simp; omega
      clear hn hn2 hv he h hlm hb1 hb2 ht
      go_enter Try.func16, Try.ntmps16
      go_wp2_with (first | ((with_reducible refine K.out.mono ?_); rintro e w1 ⟨rfl, hb1⟩; have HB := hide hb1; clear hb1) | fail)
      go_ret
      exact HF.out _ HB.out
  · rw [if_neg h] at hv he
    have hlm : l ≠ m := fun e => h (by rw [e])
    have HF : Hid (∀ w', Below w.heap.size w w' → SamePost w l m (.returned (.bool false)) w') := hide fun w' hb => ⟨by rw [decide_eq_false hlm], hb⟩
    rw [hv, he] at K
    rw [← hn, ← hn2] at K ⊢
    clear hn hn2 hv he h hlm hb1 hb2
    go_enter Try.func16, Try.ntmps16
    go_wp2_with (first | ((with_reducible refine K.out.mono ?_); rintro e w1 ⟨rfl, hb1⟩; have HB := hide hb1; clear hb1) | fail)
    go_ret
    exact HF.out _ HB.out
end Go.Proofs.Ytlpihjbnfdfbaaa
