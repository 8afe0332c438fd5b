/-
  The walks of life's small functions: of votes.
-/
import Derived.Test.YtmbddengmheeeaaLfa
import Derived.WalkSmall
namespace Go.Proofs.Ytmbddengmheeeaa
open Go.RowKit
set_option maxRecDepth 100000
set_option linter.unusedVariables false
set_option linter.unusedSimpArgs false

/-- a vote as a value. -/
def voV (v : Int × Bool) : Value := .agg #[.int .i64 v.1, .bool v.2]
theorem rs_vote : rowSize Try.prog 46 = some 2 := by kernel_rfl
theorem info_vote2 : (Try.prog.info? 46).map (·.size) = some 2 := by kernel_rfl
theorem info_vote : (Try.prog.info? 46).map (fun i => (i.zero, i.size, i.bytes)) = some (some (.agg #[.int .i64 0, .bool false]), 2, 16) := by kernel_rfl
theorem built_vote0 : Try.prog.built 46 [] = some #[.int .i64 0, .bool false] := by kernel_rfl
def BoolP (w : World) (r : Bool) (e : Ending) (w' : World) : Prop := e = .returned (.bool r) ∧ Below w.heap.size w w'
def castB (v : Int × Bool) : Bool := v.1 != 0
set_option maxHeartbeats 1000000 in
theorem cast_any (w : World) (v : Int × Bool) : Calls Try.prog 57 #[voV v] w (BoolP w (castB v)) := by
  have hF : Hid (∀ w' r, Below w.heap.size w w' → r = castB v → BoolP w (castB v) (.returned (.bool r)) w') := hide fun w' r hb hr => ⟨by rw [hr], hb⟩
  obtain ⟨s, o⟩ := v
  have hc : castB (s, o) = (s != 0) := rfl
  rw [hc] at hF ⊢
  obtain ⟨r, hr⟩ : ∃ r, r = (s != 0) := ⟨_, rfl⟩
  rw [← hr] at hF ⊢
  have hr2 := hr.symm
  clear hc hr
  unfold voV
  go_enter Try.func57, Try.ntmps57
  go_wp2
  go_ret
  exact hF.out _ _ ((Below.refl _ _).alloc (Nat.le_refl _) _) rfl
def nodeB (n : Int) : Bool := decide (0 ≤ n) && decide (n < 16)
set_option maxHeartbeats 1000000 in
theorem rightNode_any (w : World) (n : Int) : Calls Try.prog 52 #[.int .i64 n] w fun e w' => e = .returned (.bool (nodeB n)) ∧ w = w' := by
  have hF : Hid (∀ r, r = nodeB n → (Ending.returned (.bool r) = .returned (.bool (nodeB n)))) := hide fun r h => by rw [h]
  have he : nodeB n = (decide (0 ≤ n) && decide (n < 16)) := rfl
  by_cases h0 : 0 ≤ n
  · by_cases h1 : n < 16
    · have hr := hF.out true (by rw [he, decide_eq_true h0, decide_eq_true h1]; rfl)
      have HR := hide hr
      clear hr he hF
      generalize nodeB n = B at HR ⊢
      go_enter Try.func52, Try.ntmps52
      go_wp2
      go_ret
      exact ⟨HR.out, rfl⟩
    · have hr := hF.out false (by rw [he, decide_eq_false h1, Bool.and_false])
      have HR := hide hr
      clear hr he hF
      generalize nodeB n = B at HR ⊢
      go_enter Try.func52, Try.ntmps52
      go_wp2
      go_ret
      exact ⟨HR.out, rfl⟩
  · have hr := hF.out false (by rw [he, decide_eq_false h0, Bool.false_and])
    have HR := hide hr
    clear hr he hF
    generalize nodeB n = B at HR ⊢
    go_enter Try.func52, Try.ntmps52
    go_wp2
    go_ret
    exact ⟨HR.out, rfl⟩
/-- the bits of the first n. -/
def bitsV (n : Nat) : Nat := 2 ^ n - 1
theorem pow17 {x : Nat} (hx : x ≤ 16) : 2 ^ x ≤ 65536 := Nat.pow_le_pow_right (n := 2) (j := 16) (by omega) (by omega)
theorem shl_bits {x : Nat} (hx : x ≤ 16) : wrap64 ((2 : Int) ^ x) = (bitsV x : Int) + 1 := by
  have h := pow17 hx
  have hp := Nat.two_pow_pos x
  have e : ((2 : Int) ^ x) = ((2 ^ x : Nat) : Int) := by simp
  rw [e]
  unfold bitsV
  generalize 2 ^ x = p at h hp
  rw [Go.IntWalk.wrap64_in _ (by omega)]
  omega
theorem bitsV_le {x : Nat} (hx : x ≤ 16) : bitsV x ≤ 65535 := by have := pow17 hx; unfold bitsV; omega
set_option maxHeartbeats 1000000 in
theorem bits_any (w : World) (n : Nat) (hn : n ≤ 16) : Calls Try.prog 45 #[.int .i64 (n : Int)] w fun e w' => e = .returned (.int .i64 (bitsV n : Int)) ∧ w = w' := by
  have hs := shl_bits hn
  have hl := bitsV_le hn
  generalize bitsV n = b at hs hl ⊢
  have e : (b : Int) + 1 - 1 = (b : Int) := by omega
  go_enter Try.func45, Try.ntmps45
  go_wp2
  go_ret
  exact ⟨by first | rfl | (rw [e]), rfl⟩
/-- one vote stands ahead of another one. -/
def vahead (v u : Int × Bool) : Bool := if v.1 = u.1 then v.2 && !u.2 else decide (v.1 < u.1)
section
attribute [local go_sem ↓] exec_span exec_put exec_build heap_alloc_new heap_old
attribute [local go_sem] spanQ_ptr spanC_some heap_of_drew heap_of_drewN rs_vote putAt_ptr putOk_ptr oldOk_some built_vote0
theorem below_two (w : World) (a b : Obj) : Below w.heap.size w ((w.alloc a).alloc b) := ((Below.refl _ _).alloc (Nat.le_refl _) _).alloc (by simp) _
set_option maxHeartbeats 1000000 in
theorem vahead_any (w : World) (v u : Int × Bool) : Calls Try.prog 80 #[voV v, voV u] w (BoolP w (vahead v u)) := by
  have hF : Hid (∀ w' r, Below w.heap.size w w' → r = vahead v u → BoolP w (vahead v u) (.returned (.bool r)) w') := hide fun w' r hb hr => ⟨by rw [hr], hb⟩
  obtain ⟨s, o⟩ := v
  obtain ⟨s', o'⟩ := u
  have he : vahead (s, o) (s', o') = if s = s' then o && !o' else decide (s < s') := rfl
  generalize vahead (s, o) (s', o') = R at hF he ⊢
  unfold voV
  by_cases h : s = s'
  · subst h
    rw [if_pos rfl] at he
    have HE := hide he
    clear he
    cases o <;> cases o'
    all_goals
      go_enter Try.func80, Try.ntmps80
      go_wp2
      go_ret
      exact hF.out _ _ (below_two _ _ _) (by rw [HE.out]; rfl)
  · rw [if_neg h] at he
    have HE := hide he
    have hne : (s != s') = true := by simpa using h
    clear he h
    go_enter Try.func80, Try.ntmps80
    go_wp2
    go_ret
    exact hF.out _ _ (below_two _ _ _) HE.out.symm
/-- one's vote. -/
def voteAt (l : List (Int × Bool)) (i : Nat) : Int × Bool := l.getD i (0, false)
def ValP (w : World) (v : Value) (e : Ending) (w' : World) : Prop := e = .returned v ∧ Below w.heap.size w w'
set_option maxHeartbeats 1000000 in
theorem voteOf_any (w : World) (B : Nat) (A : Option Addr) (c : Nat) (l : List (Int × Bool)) (i : Nat) (hb : VoS w B A l) (hB : B ≤ w.heap.size) (hl : l.length ≤ 4611686018427387904) : Calls Try.prog 78 #[.slice A l.length c, .int .i64 (i : Int)] w (ValP w (voV (voteAt l i))) := by
  by_cases h : i < l.length
  · have hv : voteAt l i = l[i] := by unfold voteAt; rw [List.getD_eq_getElem?_getD, List.getElem?_eq_getElem h]; rfl
    obtain ⟨b, off, rfl, hbB, hc⟩ := hb (by omega)
    obtain ⟨h1, h2⟩ := hc i h
    rw [hv]
    unfold voV
    obtain ⟨s, hs⟩ : ∃ s, s = l[i].1 := ⟨_, rfl⟩
    obtain ⟨o, ho⟩ : ∃ o, o = l[i].2 := ⟨_, rfl⟩
    rw [← hs] at h1 ⊢
    rw [← ho] at h2 ⊢
    obtain ⟨n, hn⟩ : ∃ n, n = l.length := ⟨_, rfl⟩
    rw [← hn] at h hl ⊢
    have hlt : b < w.heap.size := by omega
    have hi1 : (i : Int) < (n : Int) := by omega
    clear hc hv hs ho hn hb
    go_enter Try.func78, Try.ntmps78
    go_wp2
    refine bodyPost_ret (results_cell_row (fn := Try.f78) Try.results78 _ _ w.heap.size 46 _ (0, 0) _ rfl (heap_alloc_new _ _) Try.underlying46 rfl (by exact info_vote2)) rfl ⟨rfl, (Below.refl _ _).alloc (Nat.le_refl _) _⟩
  · have hv : voteAt l i = (0, false) := by unfold voteAt; rw [List.getD_eq_getElem?_getD, List.getElem?_eq_none (by omega)]; rfl
    rw [hv]
    unfold voV
    obtain ⟨n, hn⟩ : ∃ n, n = l.length := ⟨_, rfl⟩
    rw [← hn] at h hl ⊢
    have hi1 : (i : Int) ≥ (n : Int) := by omega
    clear hv hn hb
    go_enter Try.func78, Try.ntmps78
    go_wp2
    refine bodyPost_ret (results_cell_row (fn := Try.f78) Try.results78 _ _ w.heap.size 46 _ (0, 0) _ rfl (heap_alloc_new _ _) Try.underlying46 rfl (by exact info_vote2)) rfl ⟨rfl, (Below.refl _ _).alloc (Nat.le_refl _) _⟩
end
end Go.Proofs.Ytmbddengmheeeaa
