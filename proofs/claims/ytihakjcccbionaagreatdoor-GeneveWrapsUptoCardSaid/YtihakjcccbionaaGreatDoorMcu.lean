import Derived.Test.YtihakjcccbionaaGreatDoorLent
import Derived.WalkLawsBesides
import Derived.Deep.DeepAppendWide
import Derived.Deep.RegionWith
import Derived.Deep.RegionHeld3
import Derived.Deep.AppendLies
import Derived.Defers
import Derived.Recover
import Derived.RegionTactic
import Derived.ChangeAlike
section
/-
  The walks of the Reader of package cursor: Err, rightSize, ahead, and the pieces that give up by a panic with their error.
-/
namespace Go.Proofs.YtihakjcccbionaaGreatDoor
open Go.RowKit
set_option maxRecDepth 100000

/-- the panic of a piece that gives up by error number er. -/
abbrev giveUp (er : Int) : Ending := .panicked [{ v := .iface 31 (.int .i64 er), recovered := false }]

/-- block g is a Reader of the slice A, n, c, that stands at 'k', with the error er. -/
structure Rd (w : World) (g : Nat) (A : Option Addr) (n c k : Nat) (er : Int) : Prop where
  blk : w.heap[g]? = some (.cells #[.slice A n c, .int .i64 (k : Int), .int .i64 er] 141 (0, 0))

set_option maxHeartbeats 400000 in
theorem rightSize_any (s : Int) (w : World) : Calls Tryz.prog 92 #[.int .i64 s] w fun e w' => e = .returned (.bool (decide (1 ≤ s) && decide (s ≤ 8))) ∧ w = w' := by
  by_cases h1 : 1 ≤ s
  · go_enter Tryz.func92, Tryz.ntmps92
    go_wp2
    go_ret
    exact ⟨by simp [h1], rfl⟩
  · have h1' : ¬ (s ≥ 1) := h1
    go_enter Tryz.func92, Tryz.ntmps92
    go_wp2
    go_ret
    exact ⟨by simp; omega, rfl⟩

section
variable {w w' : World} {g : Nat} {A : Option Addr} {n c k : Nat} {er : Int}
theorem Rd.lt (h : Rd w g A n c k er) : g < w.heap.size := (Array.getElem?_eq_some_iff.1 h.blk).1
theorem Rd.cell (h : Rd w g A n c k er) (i : Nat) : w.cell? ⟨g, i, none⟩ = #[Value.slice A n c, .int .i64 (k : Int), .int .i64 er][i]? := cell_of_row w g i _ _ (0, 0) h.blk
theorem Rd.c0 (h : Rd w g A n c k er) : w.cell? ⟨g, 0, none⟩ = some (.slice A n c) := h.cell 0
theorem Rd.c1 (h : Rd w g A n c k er) : w.cell? ⟨g, 1, none⟩ = some (.int .i64 (k : Int)) := h.cell 1
theorem Rd.c2 (h : Rd w g A n c k er) : w.cell? ⟨g, 2, none⟩ = some (.int .i64 er) := h.cell 2
theorem Rd.fr (h : Rd w g A n c k er) (i : Nat) : w.frozen? ⟨g, i, none⟩ = false := frozen_of_row w g i _ _ h.blk
theorem Rd.kept (h : Rd w g A n c k er) (hb : w'.heap[g]? = w.heap[g]?) : Rd w' g A n c k er := ⟨hb.trans h.blk⟩
theorem Rd.drewN (h : Rd w g A n c k er) (m : Nat) : Rd (w.drewN m) g A n c k er := ⟨h.blk⟩
theorem Rd.alloc (h : Rd w g A n c k er) (o : Obj) : Rd (w.alloc o) g A n c k er := h.kept (Below.heap_alloc w o g h.lt)
theorem Rd.grown {row : Option Nat} (h : Rd w g A n c k er) (hg : w.grownBy w' row) (hr : row ≠ some g) : Rd w' g A n c k er := h.kept (hg.block g h.lt (fun e => hr e.symm))
theorem Rd.setK (h : Rd w g A n c k er) (k' : Nat) : Rd (w.setCell ⟨g, 1, none⟩ (.int .i64 (k' : Int))) g A n c k' er :=
  ⟨heap_setCell_same w g 1 _ _ _ h.blk⟩
theorem Rd.setE (h : Rd w g A n c k er) (er' : Int) : Rd (w.setCell ⟨g, 2, none⟩ (.int .i64 er')) g A n c k er' :=
  ⟨heap_setCell_same w g 2 _ _ _ h.blk⟩
end

theorem Byt.sub {w : World} {B : Nat} {A : Option Addr} {l : List UInt8} (hb : Byt w B A l) (k m c : Nat) (hl : l.length ≤ c) : Byt w B (if c = k then A else Option.map (fun x => x.add k) A) ((l.drop k).take m) := fun hpos => by
  simp only [List.length_take, List.length_drop] at hpos
  obtain ⟨b, off, e, hlt, hc⟩ := hb (by omega)
  rw [if_neg (by omega), e]
  refine ⟨b, off + k, by rw [Option.map_some, add_none], hlt, fun i hi => ?_⟩
  simp only [List.length_take, List.length_drop] at hi
  rw [List.getElem_take, List.getElem_drop, Nat.add_assoc]
  exact hc (k + i) (by omega)

set_option maxHeartbeats 400000 in
theorem err_any (w : World) (g : Nat) (A : Option Addr) (n c k : Nat) (er : Int) (h : Rd w g A n c k er) :
    Calls Tryz.prog 52 #[.pointer (some ⟨g, 0, none⟩)] w fun e w' => e = .returned (.int .i64 er) ∧ w = w' := by
  have h2 := h.c2
  go_enter Tryz.func52, Tryz.ntmps52
  go_wp2
  go_ret
  exact ⟨rfl, rfl⟩

set_option maxHeartbeats 1000000 in
theorem ahead_neg (w : World) (g : Nat) (m : Int) (hm : m < 0) :
    Calls Tryz.prog 98 #[.pointer (some ⟨g, 0, none⟩), .int .i64 m] w fun e w' => e = giveUp 1 ∧ w = w' := by
  go_enter Tryz.func98, Tryz.ntmps98
  go_wp2
  exact ⟨rfl, rfl, rfl⟩

set_option maxHeartbeats 1000000 in
theorem ahead_short (w : World) (g : Nat) (A : Option Addr) (n c k : Nat) (er : Int) (h : Rd w g A n c k er) (m : Int) (hm : 0 ≤ m) (hn : n ≤ 140737488420864) (hk : k ≤ n) (hs : (n : Int) - k < m) :
    Calls Tryz.prog 98 #[.pointer (some ⟨g, 0, none⟩), .int .i64 m] w fun e w' => e = giveUp 10 ∧ ∃ q, w' = w.drewN q := by
  have h0 := h.c0
  have h1 := h.c1
  go_enter Tryz.func98, Tryz.ntmps98
  go_wp2
  go_quiet (fail)
  go_wp2
  exact ⟨rfl, rfl, nq, rfl⟩

set_option maxHeartbeats 1000000 in
theorem ahead_ok (w : World) (g B : Nat) (A : Option Addr) (l : List UInt8) (c k : Nat) (er : Int) (h : Rd w g A l.length c k er) (m : Nat) (hl : l.length ≤ c) (hn : l.length ≤ 140737488420864) (hk : k + m ≤ l.length) (hb : Byt w B A l) :
    Calls Tryz.prog 98 #[.pointer (some ⟨g, 0, none⟩), .int .i64 (m : Int)] w fun e w' => (∃ A' c', e = .returned (.slice A' m c') ∧ m ≤ c' ∧ Byt w B A' ((l.drop k).take m)) ∧ ∃ q, w' = w.drewN q := by
  have h0 := h.c0
  have h1 := h.c1
  go_enter Tryz.func98, Tryz.ntmps98
  go_wp2
  go_quiet (fail)
  go_wp2
  go_quiet (fail)
  rw [show k + m - k = m from by omega]
  have hS := hb.sub k m c hl
  generalize (if c = k then A else Option.map (fun x => x.add k) A) = A' at hS ⊢
  go_wp2
  go_ret
  exact ⟨⟨_, _, rfl, by omega, hS⟩, _, World.drewN_drewN _ _ _⟩

theorem Below.row {w w' : World} (h : Below w.heap.size w w') (row : Option Nat) : w.grownBy w' row := ⟨h.os, h.tape, h.output, h.size, fun k hk _ => h.block k hk⟩

theorem run_app_bytes_wide (w : World) (base ty : Nat) (v : Value) (l0 l : List UInt8) (B c : Nat) (A : Option Addr) (hown : OwnB w base v l0) (hb : Byt w B A l) (hnil : A = none → c = 0) (hlen : l0.length + l.length ≤ 200000000000000) (hbase : base ≤ w.heap.size) :
    ∃ v' w', (Builtin.append_ #[28, 28] ty #[v, .slice A l.length c]).run Tryz.prog w = .ok v' w' ∧ OwnB w' base v' (l0 ++ l) ∧ w.grownBy w' v.ownBlock := by
  obtain ⟨i0, hi, hz0, hz1, hz2⟩ := info_parts info_u8
  rcases A with _ | ad
  · have h0 : l = [] := by
      rcases l with _ | ⟨x, l⟩
      · rfl
      · obtain ⟨b, off, e, _⟩ := hb (by simp)
        cases e
    subst h0
    obtain rfl := hnil rfl
    exact ⟨v, w, run_append_owned_none (P := Tryz.prog) w base 28 ty 5 i0 1 Tryz.underlying28 hi v l0.length (l0.map byteV) hown, by simpa using hown, World.grownBy.refl w _⟩
  · have hnew : ∀ j u, (l.map byteV)[j]? = some u → w.cell? (ad.add j) = some u := by
      intro j u hj
      obtain ⟨hjl, hju⟩ := List.getElem?_eq_some_iff.1 hj
      have hjl' : j < l.length := by simpa using hjl
      obtain ⟨b, off, e, _, hcell⟩ := hb (by omega)
      cases e
      rw [add_none, hcell j hjl', ← hju]
      simp [byteV]
    obtain ⟨v', w', hr, h2, h3, _⟩ := run_append_own_wide (P := Tryz.prog) w base 28 ty 5 i0 _ 1 1 Tryz.underlying28 hi hz0 hz1 hz2 rfl (by omega) v l0.length (l0.map byteV) hown ad l.length c (l.map byteV) (by simp) hnew (byteV_one l) (by unfold maxLen; omega) (by omega) hbase
    refine ⟨v', w', hr, ?_, h3⟩
    unfold OwnB
    rw [List.length_append, List.map_append]
    exact h2
theorem wpList_app_bytes_wide {w : World} {ops : Array Oper} {rest : List Oper} {o : Oper} {a : Act} {Q : Exit → Act → World → Prop} (hgd : o.guard = none) (s x : Operand)
    (ho : o.op = .call { callee := .builtin .append, args := #[s, x], argTypes := #[28, 28] }) (base : Nat) (v : Value) (l0 l : List UInt8) (B c : Nat) (A : Option Addr)
    (hs : a.eval s = v) (hx : a.eval x = .slice A l.length c) (hown : OwnB w base v l0) (hb : Byt w B A l) (hnil : A = none → c = 0) (hlen : l0.length + l.length ≤ 200000000000000) (hbase : base ≤ w.heap.size)
    (h : ∀ v' w', OwnB w' base v' (l0 ++ l) → w.grownBy w' v.ownBlock → wpList Tryz.prog ops Q rest (a.put o.dst v') w') : wpList Tryz.prog ops Q (o :: rest) a w := by
  obtain ⟨v', w', hr, h2, h3⟩ := run_app_bytes_wide w base o.type v l0 l B c A hown hb hnil hlen hbase
  refine wpList_plain hgd fun K hK => ?_
  unfold Oper.wp execOp
  simp only [ho, resolve, invoke, builtin, Sem.run_bind, Sem.run_pure, Result.andThen_ok, List.map_toArray, List.map_cons, List.map_nil, hs, hx, hr]
  exact hK _ _ (h v' w' h2 h3)

set_option maxHeartbeats 1000000 in
theorem clone_any (w : World) (B : Nat) (A : Option Addr) (l : List UInt8) (c : Nat) (hn : l.length ≤ 140737488420864) (hb : Byt w B A l) (hB : B ≤ w.heap.size) :
    Calls Tryz.prog 83 #[.slice A l.length c] w fun e w' => ∃ v, e = .returned v ∧ OwnB w' w.heap.size v l ∧ Below w.heap.size w w' := by
  rcases A with _ | a
  · have h0 : l = [] := by
      rcases l with _ | ⟨x, l⟩
      · rfl
      · obtain ⟨b, off, e, _⟩ := hb (by simp)
        cases e
    subst h0
    have hnil : ∀ W, (binOp .eql 28 (.slice none 0 c) (.slice none 0 0)).run Tryz.prog W = .ok (.bool true) W := fun W => Lib.run_eql_slice_nil W 28 5 none 0 c 0 0 Tryz.underlying28
    go_enter Tryz.func83, Tryz.ntmps83
    go_wp2
    go_ret
    exact ⟨_, rfl, OwnB.nil _ _, Below.refl _ _⟩
  · have hsome : ∀ W, (binOp .eql 28 (.slice (some a) l.length c) (.slice none 0 0)).run Tryz.prog W = .ok (.bool false) W := fun W => Lib.run_eql_slice_nil W 28 5 (some a) l.length c 0 0 Tryz.underlying28
    have hown0 : OwnB (w.alloc (.cells #[] 5)) w.heap.size (.slice (some ⟨w.heap.size, 0, none⟩) 0 0) [] := World.ownsRow_lit w #[] 0 (Nat.le_refl _) (Nat.zero_le _) rfl
    have hb0 : Below w.heap.size w (w.alloc (.cells #[] 5)) := (Below.refl _ _).alloc (Nat.le_refl _) _
    have hby : Byt (w.alloc (.cells #[] 5)) B (some a) l := (hb.below (hb0.mono hB))
    go_enter Tryz.func83, Tryz.ntmps83
    go_wp2_with (at_builtin; refine wpList_app_bytes_wide rfl (.tmp 5) (.tmp 6) rfl w.heap.size (.slice (some ⟨w.heap.size, 0, none⟩) 0 0) [] l B c (some a) rfl rfl (by exact hown0) (by exact hby) (fun e => by cases e) (by simp; omega) (by simp) ?_)
    intro v1 w1 hown1 hgr1
    have hb1 : Below w.heap.size w w1 := hb0.grown hgr1 (by simp) (fun k hk => by simp [Value.ownBlock] at hk; omega)
    go_wp2
    go_ret
    exact ⟨_, rfl, hown1, hb1⟩
end Go.Proofs.YtihakjcccbionaaGreatDoor

end
section
/-
  The walks of the Reader's pieces: num, take, skip, zero, rest. Each reads and stands behind what it read, or gives up by a panic and has moved nothing.
-/
namespace Go.Proofs.YtihakjcccbionaaGreatDoor
open Go.RowKit
set_option maxRecDepth 100000

theorem Byt.row {w w' : World} {g : Nat} {A : Option Addr} {l : List UInt8} (hb : Byt w g A l) (hg : w.grownBy w' (some g)) : Byt w' g A l := fun hl => by
  obtain ⟨b, off, e, hlt, hc⟩ := hb hl
  refine ⟨b, off, e, hlt, fun i hi => ?_⟩
  exact hg.cell (hc i hi) (by simp; omega)
theorem grown_set (w : World) (g i : Nat) (u : Value) : w.grownBy (w.setCell ⟨g, i, none⟩ u) (some g) :=
  ⟨rfl, rfl, rfl, by simp, fun k _ hk => Below.heap_setCell w ⟨g, i, none⟩ u k (fun e => hk (by rw [e]))⟩
theorem grown_trans {a b c : World} {row : Option Nat} (h : a.grownBy b row) (k : b.grownBy c row) : a.grownBy c row :=
  ⟨k.os.trans h.os, k.tape.trans h.tape, k.output.trans h.output, Nat.le_trans h.size k.size, fun i hi hr => (k.block i (Nat.lt_of_lt_of_le hi h.size) hr).trans (h.block i hi hr)⟩
theorem grown_drewN {a b : World} {row : Option Nat} (h : a.grownBy b row) (n : Nat) : a.grownBy (b.drewN n) row := ⟨h.os, h.tape, h.output, h.size, h.block⟩
theorem grown_of_drewN {a b : World} {row : Option Nat} {n : Nat} (h : (a.drewN n).grownBy b row) : a.grownBy b row := ⟨h.os, h.tape, h.output, h.size, h.block⟩

/-- a number, its highest byte first. -/
def numS (l : List UInt8) : Nat := l.foldl (fun n x => n * 256 + x.toNat) 0
theorem numS_snoc (l : List UInt8) (x : UInt8) : numS (l ++ [x]) = numS l * 256 + x.toNat := by simp [numS]
theorem fold_lt (l : List UInt8) : ∀ a : Nat, l.foldl (fun n x => n * 256 + x.toNat) a < (a + 1) * 256 ^ l.length := by
  induction l with
  | nil => intro a; simp
  | cons x t ih =>
    intro a
    have hx := x.toNat_lt
    have h1 := ih (a * 256 + x.toNat)
    have h2 : (a * 256 + x.toNat + 1) * 256 ^ t.length ≤ ((a + 1) * 256) * 256 ^ t.length := Nat.mul_le_mul_right _ (by omega)
    rw [List.foldl_cons, List.length_cons, Nat.pow_succ, Nat.mul_comm (256 ^ t.length) 256, ← Nat.mul_assoc]
    omega
theorem numS_lt (l : List UInt8) : numS l < 256 ^ l.length := by
  have := fold_lt l 0
  rw [Nat.zero_add, Nat.one_mul] at this
  exact this
theorem or_num (N : Nat) (x : UInt8) (h : N < 256 ^ 7) : bits .or .u64 (IntKind.u64.wrap ((N : Int) * 256)) (x.toNat : Int) = ((N * 256 + x.toNat : Nat) : Int) := by
  have hx := x.toNat_lt
  have h7 : (256 : Nat) ^ 7 = 72057594037927936 := by decide
  rw [h7] at h
  rw [IntKind.wrap_u64]
  have e : ((N : Int) * 256 % 18446744073709551616) = ((N * 256 : Nat) : Int) := by omega
  rw [e]
  have h2 := u64_or_nat (N * 256) x.toNat (by omega) (by omega)
  rw [nat_join 8 _ _ (by omega) (by omega)] at h2
  exact h2

set_option maxHeartbeats 2000000 in
theorem num_ok (w : World) (g : Nat) (A : Option Addr) (l : List UInt8) (c k : Nat) (er : Int) (h : Rd w g A l.length c k er) (m : Nat) (hm1 : 1 ≤ m) (hm8 : m ≤ 8) (hl : l.length ≤ c) (hn : l.length ≤ 140737488420864) (hk : k + m ≤ l.length) (hb : Byt w g A l) :
    Calls Tryz.prog 86 #[.pointer (some ⟨g, 0, none⟩), .int .i64 (m : Int)] w fun e w' => e = .returned (.int .u64 (numS ((l.drop k).take m) : Nat)) ∧ Rd w' g A l.length c (k + m) er ∧ w.grownBy w' (some g) := by
  have hright : (decide ((1 : Int) ≤ (m : Int)) && decide ((m : Int) ≤ 8)) = true := by simp; omega
  have hR := rightSize_any (m : Int)
  rw [hright] at hR
  have HR := hide hR
  clear hright hR
  have hcall := ahead_ok w g g A l c k er h m hl hn hk hb
  obtain ⟨r, hr⟩ : ∃ r, r = (l.drop k).take m := ⟨_, rfl⟩
  rw [← hr] at hcall ⊢
  have hrl : r.length = m := by rw [hr]; simp; omega
  have HC := hide hcall
  have HRL := hide hrl
  clear hcall hr hrl
  go_enter Tryz.func86, Tryz.ntmps86
  go_wp2_with (go_at_call 92; refine (HR.out _).mono ?_; rintro e w' ⟨rfl, rfl⟩)
  go_wp2_with fail
  refine HC.out.mono ?_
  rintro e w1 ⟨⟨A', c', rfl, hmc, hby⟩, q, rfl⟩
  go_wp2
  go_loop [5, 7, 16] (fun n _ i => ∃ j : Nat, j ≤ m ∧ n = .int .u64 (numS (r.take j) : Nat) ∧ i = .int .i64 (j : Int)) (fun _ _ i => m - (intOf i).toNat)
  case atStart => exact ⟨0, by omega, rfl, rfl⟩
  case round =>
    obtain ⟨j, hj, rfl, rfl⟩ := hrel
    by_cases hlt : j < m
    · obtain ⟨b, off, rfl, hbB, hcell⟩ := hby (by rw [HRL.out]; omega)
      obtain ⟨x, hx0⟩ : ∃ x, x = r[j]'(by rw [HRL.out]; omega) := ⟨_, rfl⟩
      have hx : x.toNat ≤ 255 := by have := x.toNat_lt; omega
      have hc0 : (w.drewN q).cell? ⟨b, off + j, none⟩ = some (.int .u8 (x.toNat : Int)) := by rw [hx0]; exact hcell j _
      obtain ⟨N, hN⟩ : ∃ N, N = numS (r.take j) := ⟨_, rfl⟩
      rw [← hN]
      have HN := hide hN
      clear hN hcell
      have HX := hide hx0
      clear hx0
      go_wp2
      go_round
      case rel => exact ⟨j + 1, by omega, by
        have hlt7 : N < 256 ^ 7 := by
          rw [HN.out]
          have h1 := numS_lt (r.take j)
          have h2 : (r.take j).length ≤ 7 := by rw [List.length_take]; omega
          have h3 : 256 ^ (r.take j).length ≤ 256 ^ 7 := Nat.pow_le_pow_right (by omega) h2
          omega
        rw [or_num N x hlt7, List.take_succ_eq_append_getElem (by rw [HRL.out]; omega), numS_snoc, HN.out, HX.out], by go_num⟩
      case measure => simp [intOf]; omega
    · obtain rfl : j = m := by omega
      have hfull : r.take j = r := List.take_of_length_le (by rw [HRL.out]; omega)
      rw [hfull]
      clear hfull hlt
      have h1 : (w.drewN q).cell? ⟨g, 1, none⟩ = some (.int .i64 (k : Int)) := h.c1
      have hf1 : (w.drewN q).frozen? ⟨g, 1, none⟩ = false := h.fr 1
      have hR' := (h.drewN q).setK (k + j)
      have hg' : w.grownBy ((w.drewN q).setCell ⟨g, 1, none⟩ (.int .i64 ((k + j : Nat) : Int))) (some g) := grown_of_drewN (n := q) (grown_set _ g 1 _)
      rw [show (((k + j : Nat)) : Int) = (k : Int) + (j : Int) from by omega] at hR' hg'
      have H1 := hide hR'
      have H2 := hide hg'
      clear hR' hg'
      go_wp2
      go_ret
      exact ⟨rfl, H1.out, H2.out⟩

set_option maxHeartbeats 1000000 in
theorem num_bad (w : World) (g : Nat) (m : Int) (hm : ¬ (1 ≤ m ∧ m ≤ 8)) :
    Calls Tryz.prog 86 #[.pointer (some ⟨g, 0, none⟩), .int .i64 m] w fun e w' => e = giveUp 1 ∧ ∃ q, w' = w.drewN q := by
  have hwrong : (decide ((1 : Int) ≤ m) && decide (m ≤ 8)) = false := by simp; omega
  have hR := rightSize_any m
  rw [hwrong] at hR
  have HR := hide hR
  clear hwrong hR
  go_enter Tryz.func86, Tryz.ntmps86
  go_wp2_with (go_at_call 92; refine (HR.out _).mono ?_; rintro e w' ⟨rfl, rfl⟩)
  exact ⟨rfl, rfl, 0, rfl⟩

set_option maxHeartbeats 1000000 in
theorem num_short (w : World) (g : Nat) (A : Option Addr) (n c k : Nat) (er : Int) (h : Rd w g A n c k er) (m : Int) (hm1 : 1 ≤ m) (hm8 : m ≤ 8) (hn : n ≤ 140737488420864) (hk : k ≤ n) (hs : (n : Int) - k < m) :
    Calls Tryz.prog 86 #[.pointer (some ⟨g, 0, none⟩), .int .i64 m] w fun e w' => e = giveUp 10 ∧ ∃ q, w' = w.drewN q := by
  have hright : (decide ((1 : Int) ≤ m) && decide (m ≤ 8)) = true := by simp; omega
  have hR := rightSize_any m
  rw [hright] at hR
  have HR := hide hR
  have HC := hide (ahead_short w g A n c k er h m (by omega) hn hk hs)
  clear hright hR
  go_enter Tryz.func86, Tryz.ntmps86
  go_wp2_with (go_at_call 92; refine (HR.out _).mono ?_; rintro e w' ⟨rfl, rfl⟩)
  go_wp2_with fail
  refine HC.out.mono ?_
  rintro e w1 ⟨rfl, q, rfl⟩
  go_wp2
  exact ⟨rfl, rfl, q, rfl⟩

set_option maxHeartbeats 1000000 in
theorem take_ok (w : World) (g : Nat) (A : Option Addr) (l : List UInt8) (c k : Nat) (er : Int) (h : Rd w g A l.length c k er) (m : Nat) (hl : l.length ≤ c) (hn : l.length ≤ 140737488420864) (hk : k + m ≤ l.length) (hb : Byt w g A l) :
    Calls Tryz.prog 88 #[.pointer (some ⟨g, 0, none⟩), .int .i64 (m : Int)] w fun e w' => (∃ v, e = .returned v ∧ OwnB w' w.heap.size v ((l.drop k).take m)) ∧ Rd w' g A l.length c (k + m) er ∧ w.grownBy w' (some g) := by
  have hcall := ahead_ok w g g A l c k er h m hl hn hk hb
  obtain ⟨r, hr⟩ : ∃ r, r = (l.drop k).take m := ⟨_, rfl⟩
  rw [← hr] at hcall ⊢
  have hrl : r.length = m := by rw [hr]; simp; omega
  have HC := hide hcall
  clear hcall hr
  subst hrl
  go_enter Tryz.func88, Tryz.ntmps88
  go_wp2_with fail
  refine HC.out.mono ?_
  rintro e w1 ⟨⟨A', c', rfl, hmc, hby⟩, q, rfl⟩
  go_wp2_with fail
  refine (clone_any _ g A' r c' (by omega) (by exact hby) (by have := h.lt; simp; omega)).mono ?_
  rintro e w2 ⟨v, rfl, hown, hb2⟩
  have hgw : g < (w.drewN q).heap.size := h.lt
  have hR2 := (h.drewN q).kept (hb2.block g hgw)
  have h1 := hR2.c1
  have hf1 := hR2.fr 1
  have hown' : OwnB (w2.setCell ⟨g, 1, none⟩ (.int .i64 ((k + r.length : Nat) : Int))) w.heap.size v r := hown.kept (grown_set w2 g 1 _) (by
    rcases hown.2 with ⟨e, _⟩ | ⟨g', cap, cur, e, hbg, _⟩
    · exact .inl (by rw [e]; rfl)
    · exact .inr (by rw [e]; simp [Value.ownBlock]; simp at hgw hbg; omega))
  have hR3 := hR2.setK (k + r.length)
  have hg3 : w.grownBy (w2.setCell ⟨g, 1, none⟩ (.int .i64 ((k + r.length : Nat) : Int))) (some g) := grown_of_drewN (n := q) (grown_trans (Below.row hb2 _) (grown_set w2 g 1 _))
  rw [show (((k + r.length : Nat)) : Int) = (k : Int) + (r.length : Int) from by omega] at hR3 hg3 hown'
  have H1 := hide hR3
  have H2 := hide hg3
  have H3 := hide hown'
  clear hR3 hg3 hown' hown hb2 hR2
  go_wp2
  go_ret
  exact ⟨⟨_, rfl, H3.out⟩, H1.out, H2.out⟩

set_option maxHeartbeats 1000000 in
theorem take_neg (w : World) (g : Nat) (m : Int) (hm : m < 0) :
    Calls Tryz.prog 88 #[.pointer (some ⟨g, 0, none⟩), .int .i64 m] w fun e w' => e = giveUp 1 ∧ ∃ q, w' = w.drewN q := by
  go_enter Tryz.func88, Tryz.ntmps88
  go_wp2_with fail
  refine (ahead_neg w g m hm).mono ?_
  rintro e w1 ⟨rfl, rfl⟩
  go_wp2
  exact ⟨rfl, rfl, 0, rfl⟩

set_option maxHeartbeats 1000000 in
theorem take_short (w : World) (g : Nat) (A : Option Addr) (n c k : Nat) (er : Int) (h : Rd w g A n c k er) (m : Int) (hm : 0 ≤ m) (hn : n ≤ 140737488420864) (hk : k ≤ n) (hs : (n : Int) - k < m) :
    Calls Tryz.prog 88 #[.pointer (some ⟨g, 0, none⟩), .int .i64 m] w fun e w' => e = giveUp 10 ∧ ∃ q, w' = w.drewN q := by
  go_enter Tryz.func88, Tryz.ntmps88
  go_wp2_with fail
  refine (ahead_short w g A n c k er h m hm hn hk hs).mono ?_
  rintro e w1 ⟨rfl, q, rfl⟩
  go_wp2
  exact ⟨rfl, rfl, q, rfl⟩
end Go.Proofs.YtihakjcccbionaaGreatDoor

end
section
/-
  The walks of the Reader's pieces: skip, zero, rest.
-/
namespace Go.Proofs.YtihakjcccbionaaGreatDoor
open Go.RowKit
set_option maxRecDepth 100000

theorem wrap_in (n : Int) (h1 : -9223372036854775808 ≤ n) (h2 : n ≤ 9223372036854775807) : IntKind.i64.wrap n = n := by rw [IntKind.wrap_i64]; omega

set_option maxHeartbeats 1000000 in
theorem skip_ok (w : World) (g : Nat) (A : Option Addr) (l : List UInt8) (c k : Nat) (er : Int) (h : Rd w g A l.length c k er) (m : Nat) (hl : l.length ≤ c) (hn : l.length ≤ 140737488420864) (hk : k + m ≤ l.length) (hb : Byt w g A l) :
    Calls Tryz.prog 102 #[.pointer (some ⟨g, 0, none⟩), .int .i64 (m : Int)] w fun e w' => e = .returned (.tuple #[]) ∧ Rd w' g A l.length c (k + m) er ∧ w.grownBy w' (some g) := by
  have h1 := h.c1
  have hf1 := h.fr 1
  have hwr := wrap_in ((k : Int) + (m : Int)) (by omega) (by omega)
  have post : ∀ (n : Nat), Rd ((w.drewN n).setCell ⟨g, 1, none⟩ (.int .i64 ((k : Int) + (m : Int)))) g A l.length c (k + m) er ∧ w.grownBy ((w.drewN n).setCell ⟨g, 1, none⟩ (.int .i64 ((k : Int) + (m : Int)))) (some g) := fun n => by
    have hR' := (h.drewN n).setK (k + m)
    have hg' : w.grownBy ((w.drewN n).setCell ⟨g, 1, none⟩ (.int .i64 ((k + m : Nat) : Int))) (some g) := grown_of_drewN (n := n) (grown_set _ g 1 _)
    rw [show (((k + m : Nat)) : Int) = (k : Int) + (m : Int) from by omega] at hR' hg'
    exact ⟨hR', hg'⟩
  have POST := hide post
  clear post
  go_enter Tryz.func102, Tryz.ntmps102
  go_region_with (go_at_call 98; refine (ahead_ok _ g g A l c k er (by exact ⟨h.blk⟩) m hl hn hk (by exact hb)).mono ?_; rintro e w1 ⟨⟨A', c', rfl, hmc, hby⟩, q, rfl⟩)
  all_goals go_end0
  all_goals exact ⟨rfl, POST.out _⟩

set_option maxHeartbeats 1000000 in
theorem skip_neg (w : World) (g : Nat) (A : Option Addr) (n c k : Nat) (er : Int) (h : Rd w g A n c k er) (m : Int) (hm : m < 0) :
    Calls Tryz.prog 102 #[.pointer (some ⟨g, 0, none⟩), .int .i64 m] w fun e w' => e = giveUp 1 ∧ ∃ q, w' = w.drewN q := by
  have h1 := h.c1
  go_enter Tryz.func102, Tryz.ntmps102
  refine wp_region_any (by kernel_rfl) ?_
  try (change wpAny _ _ _ _ _ _ _ (World.drew _))
  refine wpAny_take (i := 0) (v := ?v0) rfl (by kernel_rfl) (by kernel_rfl) (by kernel_rfl) (fun _ _ _ h => h) (Or.inl ⟨by rfl, ?h0⟩) ?r0
  case h0 => (intro w; go_simp; try with_reducible rfl)
  refine wpAny_take (i := 4) (v := ?v4) rfl (by kernel_rfl) (by kernel_rfl) (by kernel_rfl) (fun _ _ _ h => h) (Or.inl ⟨by rfl, ?h4⟩) ?r4
  case h4 => (intro w; go_simp; try with_reducible rfl)
  refine wpAny_take (i := 5) (v := ?v5) rfl (by kernel_rfl) (by kernel_rfl) (by kernel_rfl) (fun _ _ _ h => h) (Or.inl ⟨by rfl, ?h5⟩) ?r5
  case h5 => (intro w; go_simp; try with_reducible rfl)
  refine wpAny_take (i := 1) (v := ?v1) rfl (by kernel_rfl) (by kernel_rfl) (by kernel_rfl) (fun _ _ _ h => h) (Or.inl ⟨by rfl, ?h1⟩) ?r1
  case h1 => (intro w; go_simp; try with_reducible rfl)
  refine wpAny_take (i := 2) (v := ?v2) rfl (by kernel_rfl) (by kernel_rfl) (by kernel_rfl) (fun _ _ _ h => h) (Or.inl ⟨by rfl, ?h2⟩) ?r2
  case h2 => (intro w; go_simp; try with_reducible rfl)
  refine wpAny_ready (rs := [3, 6]) (by kernel_rfl) (by simp) ?_
  refine AllReady.cons rfl (fun K hK => ?_) ?_
  · go_simp
    refine hK _ _ ?_
    clear hK K
    refine wpAny_ready (rs := [6]) (by kernel_rfl) (by simp) ?_
    refine AllReady.cons rfl (fun K hK => ?_) AllReady.nil
    go_simp
    go_wp2_with (go_at_call 98; refine (ahead_neg _ g m hm).mono ?_; rintro e w1 ⟨rfl, rfl⟩; exact ⟨rfl, rfl, 1, rfl⟩)
  · refine AllReady.cons rfl (fun K hK => ?_) AllReady.nil
    go_simp
    go_wp2_with (go_at_call 98; refine (ahead_neg _ g m hm).mono ?_; rintro e w1 ⟨rfl, rfl⟩; exact ⟨rfl, rfl, 1, rfl⟩)

set_option maxHeartbeats 1000000 in
theorem skip_short (w : World) (g : Nat) (A : Option Addr) (n c k : Nat) (er : Int) (h : Rd w g A n c k er) (m : Int) (hm : 0 ≤ m) (hn : n ≤ 140737488420864) (hk : k ≤ n) (hs : (n : Int) - k < m) :
    Calls Tryz.prog 102 #[.pointer (some ⟨g, 0, none⟩), .int .i64 m] w fun e w' => e = giveUp 10 ∧ ∃ q, w' = w.drewN q := by
  have h1 := h.c1
  go_enter Tryz.func102, Tryz.ntmps102
  refine wp_region_any (by kernel_rfl) ?_
  try (change wpAny _ _ _ _ _ _ _ (World.drew _))
  refine wpAny_take (i := 0) (v := ?v0) rfl (by kernel_rfl) (by kernel_rfl) (by kernel_rfl) (fun _ _ _ h => h) (Or.inl ⟨by rfl, ?h0⟩) ?r0
  case h0 => (intro w; go_simp; try with_reducible rfl)
  refine wpAny_take (i := 4) (v := ?v4) rfl (by kernel_rfl) (by kernel_rfl) (by kernel_rfl) (fun _ _ _ h => h) (Or.inl ⟨by rfl, ?h4⟩) ?r4
  case h4 => (intro w; go_simp; try with_reducible rfl)
  refine wpAny_take (i := 5) (v := ?v5) rfl (by kernel_rfl) (by kernel_rfl) (by kernel_rfl) (fun _ _ _ h => h) (Or.inl ⟨by rfl, ?h5⟩) ?r5
  case h5 => (intro w; go_simp; try with_reducible rfl)
  refine wpAny_take (i := 1) (v := ?v1) rfl (by kernel_rfl) (by kernel_rfl) (by kernel_rfl) (fun _ _ _ h => h) (Or.inl ⟨by rfl, ?h1⟩) ?r1
  case h1 => (intro w; go_simp; try with_reducible rfl)
  refine wpAny_take (i := 2) (v := ?v2) rfl (by kernel_rfl) (by kernel_rfl) (by kernel_rfl) (fun _ _ _ h => h) (Or.inl ⟨by rfl, ?h2⟩) ?r2
  case h2 => (intro w; go_simp; try with_reducible rfl)
  refine wpAny_ready (rs := [3, 6]) (by kernel_rfl) (by simp) ?_
  refine AllReady.cons rfl (fun K hK => ?_) ?_
  · go_simp
    refine hK _ _ ?_
    clear hK K
    refine wpAny_ready (rs := [6]) (by kernel_rfl) (by simp) ?_
    refine AllReady.cons rfl (fun K hK => ?_) AllReady.nil
    go_simp
    go_wp2_with (go_at_call 98; refine (ahead_short _ g A n c k er (by exact ⟨h.blk⟩) m hm hn hk hs).mono ?_; rintro e w1 ⟨rfl, q, rfl⟩; exact ⟨rfl, rfl, 1 + q, World.drewN_drewN w 1 q⟩)
  · refine AllReady.cons rfl (fun K hK => ?_) AllReady.nil
    go_simp
    go_wp2_with (go_at_call 98; refine (ahead_short _ g A n c k er (by exact ⟨h.blk⟩) m hm hn hk hs).mono ?_; rintro e w1 ⟨rfl, q, rfl⟩; exact ⟨rfl, rfl, 1 + q, World.drewN_drewN w 1 q⟩)
end Go.Proofs.YtihakjcccbionaaGreatDoor

end
section
/-
  The walks of the Reader's pieces zero and rest.
-/
namespace Go.Proofs.YtihakjcccbionaaGreatDoor
open Go.RowKit
set_option maxRecDepth 100000

def AllZero (r : List UInt8) : Prop := ∀ i (h : i < r.length), r[i] = 0
/-- what becomes of a run of bytes that must be 0. -/
def ZeroPost (w : World) (g : Nat) (A : Option Addr) (l : List UInt8) (c k m : Nat) (er : Int) (r : List UInt8) (e : Ending) (w' : World) : Prop :=
  (AllZero r ∧ e = .returned (.tuple #[]) ∧ Rd w' g A l.length c (k + m) er ∧ w.grownBy w' (some g)) ∨ (¬ AllZero r ∧ e = giveUp 11 ∧ ∃ q, w' = w.drewN q)

set_option maxHeartbeats 1000000 in
theorem zero_any (w : World) (g : Nat) (A : Option Addr) (l : List UInt8) (c k : Nat) (er : Int) (h : Rd w g A l.length c k er) (m : Nat) (hl : l.length ≤ c) (hn : l.length ≤ 140737488420864) (hk : k + m ≤ l.length) (hb : Byt w g A l) :
    Calls Tryz.prog 103 #[.pointer (some ⟨g, 0, none⟩), .int .i64 (m : Int)] w fun e w' => ZeroPost w g A l c k m er ((l.drop k).take m) e w' := by
  have hcall := ahead_ok w g g A l c k er h m hl hn hk hb
  obtain ⟨r, hr⟩ : ∃ r, r = (l.drop k).take m := ⟨_, rfl⟩
  rw [← hr] at hcall ⊢
  have hrl : r.length = m := by rw [hr]; simp; omega
  have HC := hide hcall
  have HRL := hide hrl
  clear hcall hr hrl
  go_enter Tryz.func103, Tryz.ntmps103
  go_wp2_with fail
  refine HC.out.mono ?_
  rintro e w1 ⟨⟨A', c', rfl, hmc, hby⟩, q, rfl⟩
  go_wp2
  go_loop [5, 10] (fun _ i => ∃ j : Nat, j ≤ m ∧ i = .int .i64 (j : Int) ∧ Hid (AllZero (r.take j))) (fun _ i => m - (intOf i).toNat)
  case atStart => exact ⟨0, by omega, rfl, hide (fun i hi => by simp at hi)⟩
  case round =>
    obtain ⟨j, hj, rfl, hz⟩ := hrel
    by_cases hlt : j < m
    · obtain ⟨b, off, rfl, hbB, hcell⟩ := hby (by rw [HRL.out]; omega)
      have hjr : j < r.length := by rw [HRL.out]; exact hlt
      obtain ⟨x, hx0⟩ : ∃ x, x = r[j] := ⟨_, rfl⟩
      have hx : x.toNat ≤ 255 := by have := x.toNat_lt; omega
      have hc0 : (w.drewN q).cell? ⟨b, off + j, none⟩ = some (.int .u8 (x.toNat : Int)) := by rw [hx0]; exact hcell j _
      clear hcell
      have HX := hide hx0
      clear hx0
      by_cases hxz : x.toNat = 0
      · have hxe : ((x.toNat : Int) != 0) = false := by simp [hxz]
        have hz' : AllZero (r.take (j + 1)) := fun i hi => by
          rw [List.length_take] at hi
          rw [List.getElem_take]
          by_cases hij : i = j
          · subst hij
            have : r[i] = x := HX.out.symm
            rw [this]; exact UInt8.toNat_inj.1 hxz
          · have := hz.out i (by rw [List.length_take]; omega)
            rw [List.getElem_take] at this; exact this
        have HZ := hide hz'
        clear hz' hz hxz
        go_wp2
        go_round
        case rel => exact ⟨j + 1, by omega, by go_num, HZ⟩
        case measure => simp [intOf]; omega
      · have hxe : ((x.toNat : Int) != 0) = true := by simp only [bne_iff_ne, ne_eq]; omega
        have hno : ¬ AllZero r := fun hall => hxz (by
          have := hall j hjr
          rw [HX.out, this]; rfl)
        have HNO := hide hno
        clear hno hz hxz
        go_wp2
        exact ⟨rfl, .inr ⟨HNO.out, rfl, q, rfl⟩⟩
    · obtain rfl : j = m := by omega
      have hfull : AllZero r := by
        have := hz.out
        rwa [List.take_of_length_le (by rw [HRL.out]; omega)] at this
      have h1 : (w.drewN q).cell? ⟨g, 1, none⟩ = some (.int .i64 (k : Int)) := h.c1
      have hf1 : (w.drewN q).frozen? ⟨g, 1, none⟩ = false := h.fr 1
      have hR' := (h.drewN q).setK (k + j)
      have hg' : w.grownBy ((w.drewN q).setCell ⟨g, 1, none⟩ (.int .i64 ((k + j : Nat) : Int))) (some g) := grown_of_drewN (n := q) (grown_set _ g 1 _)
      rw [show (((k + j : Nat)) : Int) = (k : Int) + (j : Int) from by omega] at hR' hg'
      have H1 := hide hR'
      have H2 := hide hg'
      have H3 := hide hfull
      clear hR' hg' hfull hz hlt
      go_wp2
      go_end0
      exact .inl ⟨H3.out, rfl, H1.out, H2.out⟩

set_option maxHeartbeats 1000000 in
theorem zero_neg (w : World) (g : Nat) (m : Int) (hm : m < 0) :
    Calls Tryz.prog 103 #[.pointer (some ⟨g, 0, none⟩), .int .i64 m] w fun e w' => e = giveUp 1 ∧ ∃ q, w' = w.drewN q := by
  go_enter Tryz.func103, Tryz.ntmps103
  go_wp2_with fail
  refine (ahead_neg w g m hm).mono ?_
  rintro e w1 ⟨rfl, rfl⟩
  go_wp2
  exact ⟨rfl, rfl, 0, rfl⟩

set_option maxHeartbeats 1000000 in
theorem zero_short (w : World) (g : Nat) (A : Option Addr) (n c k : Nat) (er : Int) (h : Rd w g A n c k er) (m : Int) (hm : 0 ≤ m) (hn : n ≤ 140737488420864) (hk : k ≤ n) (hs : (n : Int) - k < m) :
    Calls Tryz.prog 103 #[.pointer (some ⟨g, 0, none⟩), .int .i64 m] w fun e w' => e = giveUp 10 ∧ ∃ q, w' = w.drewN q := by
  go_enter Tryz.func103, Tryz.ntmps103
  go_wp2_with fail
  refine (ahead_short w g A n c k er h m hm hn hk hs).mono ?_
  rintro e w1 ⟨rfl, q, rfl⟩
  go_wp2
  exact ⟨rfl, rfl, q, rfl⟩

set_option maxHeartbeats 1000000 in
theorem rest_bad (w : World) (g : Nat) (s : Int) (hs : ¬ s = 0) :
    Calls Tryz.prog 104 #[.pointer (some ⟨g, 0, none⟩), .int .i64 s] w fun e w' => e = giveUp 1 ∧ ∃ q, w' = w.drewN q := by
  have hs1 : (s != 0) = true := by simp; exact hs
  go_enter Tryz.func104, Tryz.ntmps104
  go_wp2
  exact ⟨rfl, rfl, 0, rfl⟩

set_option maxHeartbeats 1000000 in
theorem rest_ok (w : World) (g : Nat) (A : Option Addr) (l : List UInt8) (c k : Nat) (er : Int) (h : Rd w g A l.length c k er) (hl : l.length ≤ c) (hn : l.length ≤ 140737488420864) (hk : k ≤ l.length) (hb : Byt w g A l) :
    Calls Tryz.prog 104 #[.pointer (some ⟨g, 0, none⟩), .int .i64 0] w fun e w' => (∃ v, e = .returned v ∧ OwnB w' w.heap.size v (l.drop k)) ∧ Rd w' g A l.length c l.length er ∧ w.grownBy w' (some g) := by
  have h0 := h.c0
  have h1 := h.c1
  have hwr := wrap_in ((l.length : Int) - (k : Int)) (by omega) (by omega)
  have hcall : ∀ n, Calls Tryz.prog 88 #[.pointer (some ⟨g, 0, none⟩), .int .i64 ((l.length : Int) - (k : Int))] (w.drewN n) fun e w' => (∃ v, e = .returned v ∧ OwnB w' w.heap.size v (l.drop k)) ∧ Rd w' g A l.length c l.length er ∧ w.grownBy w' (some g) := fun n => by
    have := take_ok (w.drewN n) g A l c k er (h.drewN n) (l.length - k) hl hn (by omega) hb
    rw [show ((l.length - k : Nat) : Int) = (l.length : Int) - (k : Int) from by omega, show k + (l.length - k) = l.length from by omega, List.take_of_length_le (by rw [List.length_drop]; omega)] at this
    exact this.mono fun e w' ⟨h1, h2, h3⟩ => ⟨h1, h2, grown_of_drewN h3⟩
  have HC := hide hcall
  clear hcall
  go_enter Tryz.func104, Tryz.ntmps104
  go_wp2
  go_region_with (go_at_call 88; refine (HC.out 1).mono ?_; rintro e w1 ⟨⟨v, rfl, hown⟩, hR, hg⟩)
  all_goals go_wp2
  all_goals go_ret
  all_goals exact ⟨⟨_, rfl, hown⟩, hR, hg⟩
end Go.Proofs.YtihakjcccbionaaGreatDoor

end
section
/-
  The walk of a Reader's piece of whatever kind: what it was, or the error by which it gives up.
-/
namespace Go.Proofs.YtihakjcccbionaaGreatDoor
open Go.RowKit
set_option maxRecDepth 100000

/-- what a piece is: a number, bytes, how many were read; or the error by which it gives up. -/
inductive PRes where
  | got (N : Nat) (b : List UInt8) (m : Nat)
  | gave (er : Nat)

def pieceS (l : List UInt8) (k : Nat) (kd sz : Int) : PRes :=
  if kd = 0 then (if 1 ≤ sz ∧ sz ≤ 8 then (if sz ≤ (l.length : Int) - k then .got (numS ((l.drop k).take sz.toNat)) [] sz.toNat else .gave 10) else .gave 1)
  else if kd = 1 then (if sz < 0 then .gave 1 else if sz ≤ (l.length : Int) - k then .got 0 ((l.drop k).take sz.toNat) sz.toNat else .gave 10)
  else if kd = 2 then (if sz < 0 then .gave 1 else if sz ≤ (l.length : Int) - k then .got 0 [] sz.toNat else .gave 10)
  else if kd = 3 then (if sz < 0 then .gave 1 else if sz ≤ (l.length : Int) - k then (if ((l.drop k).take sz.toNat).all (fun x => x == 0) = true then .got 0 [] sz.toNat else .gave 11) else .gave 10)
  else if kd = 4 then (if sz = 0 then .got 0 (l.drop k) (l.length - k) else .gave 1)
  else .gave 1

theorem allZero_iff (r : List UInt8) : AllZero r ↔ r.all (fun x => x == 0) = true := by
  rw [List.all_eq_true]
  constructor
  · intro h x hx
    obtain ⟨i, hi, rfl⟩ := List.getElem_of_mem hx
    simp [h i hi]
  · intro h i hi
    simpa using h r[i] (List.getElem_mem hi)

def PiecePost (w : World) (g : Nat) (A : Option Addr) (l : List UInt8) (c k : Nat) (er : Int) : PRes → Ending → World → Prop
  | .got N b m, e, w' => (∃ v, e = .returned (.agg #[.int .u64 (N : Int), v]) ∧ OwnB w' w.heap.size v b) ∧ Rd w' g A l.length c (k + m) er ∧ w.grownBy w' (some g)
  | .gave er', e, w' => e = giveUp er' ∧ Below w.heap.size w w'

/-- the world behind a piece's two variables: the piece itself, and what it was. -/
theorem two_vars (w : World) (cs ds : Array Value) (t u : TypeId) : ∃ W, W = (w.alloc (.cells cs t)).alloc (.cells ds u) ∧ Below w.heap.size w W ∧ W.heap.size = w.heap.size + 2 ∧ W.heap[w.heap.size + 1]? = some (.cells ds u (0, 0)) := by
  refine ⟨_, rfl, ((Below.refl _ _).alloc (Nat.le_refl _) _).alloc (by simp) _, by simp, ?_⟩
  have := heap_alloc_new (w.alloc (.cells cs t)) (.cells ds u)
  simpa using this

/-- a block of two cells, both written: what it holds then, and that a Reader and all that was there are as they were. -/
theorem two_set {w1 : World} {G : Nat} {x y : Value} {t : TypeId} (h : w1.heap[G]? = some (.cells #[x, y] t (0, 0))) (a b : Value) :
    ((w1.setCell ⟨G, 0, none⟩ a).setCell ⟨G, 1, none⟩ b).cell? ⟨G, 0, none⟩ = some a ∧ ((w1.setCell ⟨G, 0, none⟩ a).setCell ⟨G, 1, none⟩ b).cell? ⟨G, 1, none⟩ = some b ∧
    ∀ {w W : World} {g : Nat} {A : Option Addr} {n c k : Nat} {er : Int}, w.grownBy W (some g) → W.grownBy w1 (some g) → Rd w1 g A n c k er → g ≠ G → w.heap.size ≤ G →
      Rd ((w1.setCell ⟨G, 0, none⟩ a).setCell ⟨G, 1, none⟩ b) g A n c k er ∧ w.grownBy ((w1.setCell ⟨G, 0, none⟩ a).setCell ⟨G, 1, none⟩ b) (some g) := by
  have h1 : (w1.setCell ⟨G, 0, none⟩ a).heap[G]? = some (.cells #[a, y] t (0, 0)) := heap_setCell_same w1 G 0 _ _ _ h
  have h2 : ((w1.setCell ⟨G, 0, none⟩ a).setCell ⟨G, 1, none⟩ b).heap[G]? = some (.cells #[a, b] t (0, 0)) := heap_setCell_same _ G 1 _ _ _ h1
  refine ⟨cell_of_row _ G 0 _ _ (0, 0) h2, cell_of_row _ G 1 _ _ (0, 0) h2, fun {w W g A n c k er} hw hg hR hne hG => ⟨?_, ?_⟩⟩
  · exact hR.kept ((Below.heap_setCell _ ⟨G, 1, none⟩ b g (by exact hne)).trans (Below.heap_setCell _ ⟨G, 0, none⟩ a g (by exact hne)))
  · have h12 := grown_trans hw hg
    refine ⟨h12.os, h12.tape, h12.output, by simpa using h12.size, fun i hi hr => ?_⟩
    rw [Below.heap_setCell _ ⟨G, 1, none⟩ b i (by show i ≠ G; omega), Below.heap_setCell _ ⟨G, 0, none⟩ a i (by show i ≠ G; omega)]
    exact h12.block i hi hr

theorem OwnB.base {w : World} {B B' : Nat} {v : Value} {l : List UInt8} (h : OwnB w B v l) (hB : B' ≤ B) : OwnB w B' v l := by
  refine ⟨h.1, ?_⟩
  rcases h.2 with e | ⟨g, cap, cur, e, hb, rest⟩
  · exact .inl e
  · exact .inr ⟨g, cap, cur, e, Nat.le_trans hB hb, rest⟩
theorem OwnB.two_set {w : World} {B G : Nat} {v a b : Value} {l : List UInt8} (h : OwnB w B v l) (hG : G < B) : OwnB ((w.setCell ⟨G, 0, none⟩ a).setCell ⟨G, 1, none⟩ b) B v l := by
  have hne : v.ownBlock = none ∨ v.ownBlock ≠ some G := by
    rcases h.2 with ⟨e, _⟩ | ⟨g', cap, cur, e, hbg, _⟩
    · exact .inl (by rw [e]; rfl)
    · exact .inr (by rw [e]; simp [Value.ownBlock]; omega)
  exact (h.kept (grown_set w G 0 a) hne).kept (grown_set _ G 1 b) hne

set_option maxHeartbeats 1000000 in
theorem piece_num (w : World) (g : Nat) (A : Option Addr) (l : List UInt8) (c k : Nat) (er : Int) (h : Rd w g A l.length c k er) (m : Nat) (hm1 : 1 ≤ m) (hm8 : m ≤ 8) (hk : k + m ≤ l.length) (hl : l.length ≤ c) (hn : l.length ≤ 140737488420864) (hb : Byt w g A l) :
    Calls Tryz.prog 100 #[.pointer (some ⟨g, 0, none⟩), .agg #[.int .i64 0, .int .i64 (m : Int)]] w fun e w' => PiecePost w g A l c k er (.got (numS ((l.drop k).take m)) [] m) e w' := by
  go_enter Tryz.func100, Tryz.ntmps100
  obtain ⟨W, hW, hbW, hzW, hvW⟩ := two_vars w #[.int .i64 0, .int .i64 (m : Int)] #[.int .u64 0, .slice none 0 0] 121 120
  have HZ := hide hzW
  have HV := hide hvW
  clear hzW hvW
  go_wp2_with fail
  rw [← hW]
  have hRW : Rd W g A l.length c k er := h.kept (hbW.block g h.lt)
  have hbyW : Byt W g A l := by have := h.lt; exact hb.below (hbW.mono (by omega))
  refine (num_ok W g A l c k er hRW m hm1 hm8 hl hn hk hbyW).mono ?_
  rintro e w1 ⟨rfl, hR1, hg1⟩
  have hv1 : w1.heap[w.heap.size + 1]? = some (.cells #[.int .u64 0, .slice none 0 0] 120 (0, 0)) := (hg1.block _ (by have := HZ.out; omega) (by have := h.lt; simp; omega)).trans HV.out
  have c0 : w1.cell? ⟨w.heap.size + 1, 0, none⟩ = some (.int .u64 0) := cell_of_row w1 _ 0 _ _ (0, 0) hv1
  have c1 : w1.cell? ⟨w.heap.size + 1, 1, none⟩ = some (.slice none 0 0) := cell_of_row w1 _ 1 _ _ (0, 0) hv1
  have f0 : w1.frozen? ⟨w.heap.size + 1, 0, none⟩ = false := frozen_of_row w1 _ 0 _ _ hv1
  have f1 : w1.frozen? ⟨w.heap.size + 1, 1, none⟩ = false := frozen_of_row w1 _ 1 _ _ hv1
  obtain ⟨r0, r1, hfin⟩ := two_set hv1 (.int .u64 (numS ((l.drop k).take m) : Nat)) (.slice none 0 0)
  have hend := hfin (Below.row hbW (some g)) hg1 hR1 (by have := h.lt; omega) (Nat.le_succ _)
  have HEND := hide hend
  clear hW hv1 hfin hend
  go_wp2
  exact bodyPost_ret (v := .agg #[.int .u64 (numS ((l.drop k).take m) : Nat), (.slice none 0 0)]) (by simp [results, Tryz.results100, go_sem, r0, r1]) rfl ⟨⟨_, rfl, OwnB.nil _ _⟩, HEND.out⟩

set_option maxHeartbeats 1000000 in
theorem piece_take (w : World) (g : Nat) (A : Option Addr) (l : List UInt8) (c k : Nat) (er : Int) (h : Rd w g A l.length c k er) (m : Nat) (hk : k + m ≤ l.length) (hl : l.length ≤ c) (hn : l.length ≤ 140737488420864) (hb : Byt w g A l) :
    Calls Tryz.prog 100 #[.pointer (some ⟨g, 0, none⟩), .agg #[.int .i64 1, .int .i64 (m : Int)]] w fun e w' => PiecePost w g A l c k er (.got 0 ((l.drop k).take m) m) e w' := by
  have hcall := fun (W : World) (hRW : Rd W g A l.length c k er) (hbyW : Byt W g A l) => take_ok W g A l c k er hRW m hl hn hk hbyW
  obtain ⟨r, hr⟩ : ∃ r, r = (l.drop k).take m := ⟨_, rfl⟩
  rw [← hr] at hcall ⊢
  have HCALL := hide hcall
  clear hcall hr
  go_enter Tryz.func100, Tryz.ntmps100
  obtain ⟨W, hW, hbW, hzW, hvW⟩ := two_vars w #[.int .i64 1, .int .i64 (m : Int)] #[.int .u64 0, .slice none 0 0] 121 120
  have HZ := hide hzW
  have HV := hide hvW
  clear hzW hvW
  go_wp2_with fail
  rw [← hW]
  have hRW : Rd W g A l.length c k er := h.kept (hbW.block g h.lt)
  have hbyW : Byt W g A l := by have := h.lt; exact hb.below (hbW.mono (by omega))
  refine (HCALL.out W hRW hbyW).mono ?_
  rintro e w1 ⟨⟨v, rfl, hown⟩, hR1, hg1⟩
  obtain ⟨A3, c3, rfl, hl3, _, _⟩ := hown.shape
  have hown2 := hown.two_set (G := w.heap.size + 1) (a := .int .u64 0) (b := .slice A3 r.length c3) (by have := HZ.out; omega)
  have HO := hide hown2
  clear hown hown2
  have hv1 : w1.heap[w.heap.size + 1]? = some (.cells #[.int .u64 0, .slice none 0 0] 120 (0, 0)) := (hg1.block _ (by have := HZ.out; omega) (by have := h.lt; simp; omega)).trans HV.out
  have c0 : w1.cell? ⟨w.heap.size + 1, 0, none⟩ = some (.int .u64 0) := cell_of_row w1 _ 0 _ _ (0, 0) hv1
  have c1 : w1.cell? ⟨w.heap.size + 1, 1, none⟩ = some (.slice none 0 0) := cell_of_row w1 _ 1 _ _ (0, 0) hv1
  have f0 : w1.frozen? ⟨w.heap.size + 1, 0, none⟩ = false := frozen_of_row w1 _ 0 _ _ hv1
  have f1 : w1.frozen? ⟨w.heap.size + 1, 1, none⟩ = false := frozen_of_row w1 _ 1 _ _ hv1
  obtain ⟨r0, r1, hfin⟩ := two_set hv1 (.int .u64 0) (.slice A3 r.length c3)
  have hend := hfin (Below.row hbW (some g)) hg1 hR1 (by have := h.lt; omega) (Nat.le_succ _)
  have HEND := hide hend
  clear hW hv1 hfin hend
  go_wp2
  exact bodyPost_ret (v := .agg #[.int .u64 0, (.slice A3 r.length c3)]) (by simp [results, Tryz.results100, go_sem, r0, r1]) rfl ⟨⟨_, rfl, (HO.out.base (by have := HZ.out; omega))⟩, HEND.out⟩

set_option maxHeartbeats 1000000 in
theorem piece_skip (w : World) (g : Nat) (A : Option Addr) (l : List UInt8) (c k : Nat) (er : Int) (h : Rd w g A l.length c k er) (m : Nat) (hk : k + m ≤ l.length) (hl : l.length ≤ c) (hn : l.length ≤ 140737488420864) (hb : Byt w g A l) :
    Calls Tryz.prog 100 #[.pointer (some ⟨g, 0, none⟩), .agg #[.int .i64 2, .int .i64 (m : Int)]] w fun e w' => PiecePost w g A l c k er (.got 0 [] m) e w' := by
  go_enter Tryz.func100, Tryz.ntmps100
  obtain ⟨W, hW, hbW, hzW, hvW⟩ := two_vars w #[.int .i64 2, .int .i64 (m : Int)] #[.int .u64 0, .slice none 0 0] 121 120
  have HZ := hide hzW
  have HV := hide hvW
  clear hzW hvW
  go_wp2_with fail
  rw [← hW]
  have hRW : Rd W g A l.length c k er := h.kept (hbW.block g h.lt)
  have hbyW : Byt W g A l := by have := h.lt; exact hb.below (hbW.mono (by omega))
  refine (skip_ok W g A l c k er hRW m hl hn hk hbyW).mono ?_
  rintro e w1 ⟨rfl, hR1, hg1⟩
  have hv1 : w1.heap[w.heap.size + 1]? = some (.cells #[.int .u64 0, .slice none 0 0] 120 (0, 0)) := (hg1.block _ (by have := HZ.out; omega) (by have := h.lt; simp; omega)).trans HV.out
  have c0 : w1.cell? ⟨w.heap.size + 1, 0, none⟩ = some (.int .u64 0) := cell_of_row w1 _ 0 _ _ (0, 0) hv1
  have c1 : w1.cell? ⟨w.heap.size + 1, 1, none⟩ = some (.slice none 0 0) := cell_of_row w1 _ 1 _ _ (0, 0) hv1
  have f0 : w1.frozen? ⟨w.heap.size + 1, 0, none⟩ = false := frozen_of_row w1 _ 0 _ _ hv1
  have f1 : w1.frozen? ⟨w.heap.size + 1, 1, none⟩ = false := frozen_of_row w1 _ 1 _ _ hv1
  obtain ⟨r0, r1, hfin⟩ := two_set hv1 (.int .u64 0) (.slice none 0 0)
  have hend := hfin (Below.row hbW (some g)) hg1 hR1 (by have := h.lt; omega) (Nat.le_succ _)
  have HEND := hide hend
  clear hW hv1 hfin hend
  go_wp2
  exact bodyPost_ret (v := .agg #[.int .u64 0, (.slice none 0 0)]) (by simp [results, Tryz.results100, go_sem, r0, r1]) rfl ⟨⟨_, rfl, OwnB.nil _ _⟩, HEND.out⟩

set_option maxHeartbeats 1000000 in
theorem piece_rest (w : World) (g : Nat) (A : Option Addr) (l : List UInt8) (c k : Nat) (er : Int) (h : Rd w g A l.length c k er) (hk : k ≤ l.length) (hl : l.length ≤ c) (hn : l.length ≤ 140737488420864) (hb : Byt w g A l) :
    Calls Tryz.prog 100 #[.pointer (some ⟨g, 0, none⟩), .agg #[.int .i64 4, .int .i64 0]] w fun e w' => PiecePost w g A l c k er (.got 0 (l.drop k) (l.length - k)) e w' := by
  have hcall := fun (W : World) (hRW : Rd W g A l.length c k er) (hbyW : Byt W g A l) => rest_ok W g A l c k er hRW hl hn hk hbyW
  obtain ⟨r, hr⟩ : ∃ r, r = l.drop k := ⟨_, rfl⟩
  rw [← hr] at hcall ⊢
  have HCALL := hide hcall
  clear hcall hr
  go_enter Tryz.func100, Tryz.ntmps100
  obtain ⟨W, hW, hbW, hzW, hvW⟩ := two_vars w #[.int .i64 4, .int .i64 0] #[.int .u64 0, .slice none 0 0] 121 120
  have HZ := hide hzW
  have HV := hide hvW
  clear hzW hvW
  go_wp2_with fail
  rw [← hW]
  have hRW : Rd W g A l.length c k er := h.kept (hbW.block g h.lt)
  have hbyW : Byt W g A l := by have := h.lt; exact hb.below (hbW.mono (by omega))
  refine (HCALL.out W hRW hbyW).mono ?_
  rintro e w1 ⟨⟨v, rfl, hown⟩, hR1, hg1⟩
  obtain ⟨A3, c3, rfl, hl3, _, _⟩ := hown.shape
  have hown2 := hown.two_set (G := w.heap.size + 1) (a := .int .u64 0) (b := .slice A3 r.length c3) (by have := HZ.out; omega)
  have HO := hide hown2
  clear hown hown2
  have hR2 : Rd w1 g A l.length c (k + (l.length - k)) er := by rw [show k + (l.length - k) = l.length from by omega]; exact hR1
  clear hR1
  have hR1 := hR2
  clear hR2
  have hv1 : w1.heap[w.heap.size + 1]? = some (.cells #[.int .u64 0, .slice none 0 0] 120 (0, 0)) := (hg1.block _ (by have := HZ.out; omega) (by have := h.lt; simp; omega)).trans HV.out
  have c0 : w1.cell? ⟨w.heap.size + 1, 0, none⟩ = some (.int .u64 0) := cell_of_row w1 _ 0 _ _ (0, 0) hv1
  have c1 : w1.cell? ⟨w.heap.size + 1, 1, none⟩ = some (.slice none 0 0) := cell_of_row w1 _ 1 _ _ (0, 0) hv1
  have f0 : w1.frozen? ⟨w.heap.size + 1, 0, none⟩ = false := frozen_of_row w1 _ 0 _ _ hv1
  have f1 : w1.frozen? ⟨w.heap.size + 1, 1, none⟩ = false := frozen_of_row w1 _ 1 _ _ hv1
  obtain ⟨r0, r1, hfin⟩ := two_set hv1 (.int .u64 0) (.slice A3 r.length c3)
  have hend := hfin (Below.row hbW (some g)) hg1 hR1 (by have := h.lt; omega) (Nat.le_succ _)
  have HEND := hide hend
  clear hW hv1 hfin hend
  go_wp2
  exact bodyPost_ret (v := .agg #[.int .u64 0, (.slice A3 r.length c3)]) (by simp [results, Tryz.results100, go_sem, r0, r1]) rfl ⟨⟨_, rfl, (HO.out.base (by have := HZ.out; omega))⟩, HEND.out⟩

set_option maxHeartbeats 1000000 in
theorem piece_num_bad (w : World) (g : Nat) (A : Option Addr) (l : List UInt8) (c k : Nat) (er : Int) (h : Rd w g A l.length c k er) (sz : Int) (hs : ¬ (1 ≤ sz ∧ sz ≤ 8)) :
    Calls Tryz.prog 100 #[.pointer (some ⟨g, 0, none⟩), .agg #[.int .i64 0, .int .i64 sz]] w fun e w' => PiecePost w g A l c k er (.gave 1) e w' := by
  go_enter Tryz.func100, Tryz.ntmps100
  obtain ⟨W, hW, hbW, hzW, hvW⟩ := two_vars w #[.int .i64 0, .int .i64 sz] #[.int .u64 0, .slice none 0 0] 121 120
  clear hzW hvW
  go_wp2_with fail
  rw [← hW]
  clear hW
  have hRW : Rd W g A l.length c k er := h.kept (hbW.block g h.lt)
  refine (num_bad W g sz hs).mono ?_
  rintro e w1 ⟨rfl, q, rfl⟩
  go_wp2
  exact ⟨rfl, rfl, below_drewN hbW q⟩

set_option maxHeartbeats 1000000 in
theorem piece_num_short (w : World) (g : Nat) (A : Option Addr) (l : List UInt8) (c k : Nat) (er : Int) (h : Rd w g A l.length c k er) (sz : Int) (h1 : 1 ≤ sz) (h8 : sz ≤ 8) (hn : l.length ≤ 140737488420864) (hk : k ≤ l.length) (hs : (l.length : Int) - k < sz) :
    Calls Tryz.prog 100 #[.pointer (some ⟨g, 0, none⟩), .agg #[.int .i64 0, .int .i64 sz]] w fun e w' => PiecePost w g A l c k er (.gave 10) e w' := by
  go_enter Tryz.func100, Tryz.ntmps100
  obtain ⟨W, hW, hbW, hzW, hvW⟩ := two_vars w #[.int .i64 0, .int .i64 sz] #[.int .u64 0, .slice none 0 0] 121 120
  clear hzW hvW
  go_wp2_with fail
  rw [← hW]
  clear hW
  have hRW : Rd W g A l.length c k er := h.kept (hbW.block g h.lt)
  refine (num_short W g A _ c k er hRW sz h1 h8 hn hk hs).mono ?_
  rintro e w1 ⟨rfl, q, rfl⟩
  go_wp2
  exact ⟨rfl, rfl, below_drewN hbW q⟩

set_option maxHeartbeats 1000000 in
theorem piece_take_neg (w : World) (g : Nat) (A : Option Addr) (l : List UInt8) (c k : Nat) (er : Int) (h : Rd w g A l.length c k er) (sz : Int) (hs : sz < 0) :
    Calls Tryz.prog 100 #[.pointer (some ⟨g, 0, none⟩), .agg #[.int .i64 1, .int .i64 sz]] w fun e w' => PiecePost w g A l c k er (.gave 1) e w' := by
  go_enter Tryz.func100, Tryz.ntmps100
  obtain ⟨W, hW, hbW, hzW, hvW⟩ := two_vars w #[.int .i64 1, .int .i64 sz] #[.int .u64 0, .slice none 0 0] 121 120
  clear hzW hvW
  go_wp2_with fail
  rw [← hW]
  clear hW
  have hRW : Rd W g A l.length c k er := h.kept (hbW.block g h.lt)
  refine (take_neg W g sz hs).mono ?_
  rintro e w1 ⟨rfl, q, rfl⟩
  go_wp2
  exact ⟨rfl, rfl, below_drewN hbW q⟩

set_option maxHeartbeats 1000000 in
theorem piece_take_short (w : World) (g : Nat) (A : Option Addr) (l : List UInt8) (c k : Nat) (er : Int) (h : Rd w g A l.length c k er) (sz : Int) (h0 : 0 ≤ sz) (hn : l.length ≤ 140737488420864) (hk : k ≤ l.length) (hs : (l.length : Int) - k < sz) :
    Calls Tryz.prog 100 #[.pointer (some ⟨g, 0, none⟩), .agg #[.int .i64 1, .int .i64 sz]] w fun e w' => PiecePost w g A l c k er (.gave 10) e w' := by
  go_enter Tryz.func100, Tryz.ntmps100
  obtain ⟨W, hW, hbW, hzW, hvW⟩ := two_vars w #[.int .i64 1, .int .i64 sz] #[.int .u64 0, .slice none 0 0] 121 120
  clear hzW hvW
  go_wp2_with fail
  rw [← hW]
  clear hW
  have hRW : Rd W g A l.length c k er := h.kept (hbW.block g h.lt)
  refine (take_short W g A _ c k er hRW sz h0 hn hk hs).mono ?_
  rintro e w1 ⟨rfl, q, rfl⟩
  go_wp2
  exact ⟨rfl, rfl, below_drewN hbW q⟩

set_option maxHeartbeats 1000000 in
theorem piece_skip_neg (w : World) (g : Nat) (A : Option Addr) (l : List UInt8) (c k : Nat) (er : Int) (h : Rd w g A l.length c k er) (sz : Int) (hs : sz < 0) :
    Calls Tryz.prog 100 #[.pointer (some ⟨g, 0, none⟩), .agg #[.int .i64 2, .int .i64 sz]] w fun e w' => PiecePost w g A l c k er (.gave 1) e w' := by
  go_enter Tryz.func100, Tryz.ntmps100
  obtain ⟨W, hW, hbW, hzW, hvW⟩ := two_vars w #[.int .i64 2, .int .i64 sz] #[.int .u64 0, .slice none 0 0] 121 120
  clear hzW hvW
  go_wp2_with fail
  rw [← hW]
  clear hW
  have hRW : Rd W g A l.length c k er := h.kept (hbW.block g h.lt)
  refine (skip_neg W g A _ c k er hRW sz hs).mono ?_
  rintro e w1 ⟨rfl, q, rfl⟩
  go_wp2
  exact ⟨rfl, rfl, below_drewN hbW q⟩

set_option maxHeartbeats 1000000 in
theorem piece_skip_short (w : World) (g : Nat) (A : Option Addr) (l : List UInt8) (c k : Nat) (er : Int) (h : Rd w g A l.length c k er) (sz : Int) (h0 : 0 ≤ sz) (hn : l.length ≤ 140737488420864) (hk : k ≤ l.length) (hs : (l.length : Int) - k < sz) :
    Calls Tryz.prog 100 #[.pointer (some ⟨g, 0, none⟩), .agg #[.int .i64 2, .int .i64 sz]] w fun e w' => PiecePost w g A l c k er (.gave 10) e w' := by
  go_enter Tryz.func100, Tryz.ntmps100
  obtain ⟨W, hW, hbW, hzW, hvW⟩ := two_vars w #[.int .i64 2, .int .i64 sz] #[.int .u64 0, .slice none 0 0] 121 120
  clear hzW hvW
  go_wp2_with fail
  rw [← hW]
  clear hW
  have hRW : Rd W g A l.length c k er := h.kept (hbW.block g h.lt)
  refine (skip_short W g A _ c k er hRW sz h0 hn hk hs).mono ?_
  rintro e w1 ⟨rfl, q, rfl⟩
  go_wp2
  exact ⟨rfl, rfl, below_drewN hbW q⟩

set_option maxHeartbeats 1000000 in
theorem piece_zero_neg (w : World) (g : Nat) (A : Option Addr) (l : List UInt8) (c k : Nat) (er : Int) (h : Rd w g A l.length c k er) (sz : Int) (hs : sz < 0) :
    Calls Tryz.prog 100 #[.pointer (some ⟨g, 0, none⟩), .agg #[.int .i64 3, .int .i64 sz]] w fun e w' => PiecePost w g A l c k er (.gave 1) e w' := by
  go_enter Tryz.func100, Tryz.ntmps100
  obtain ⟨W, hW, hbW, hzW, hvW⟩ := two_vars w #[.int .i64 3, .int .i64 sz] #[.int .u64 0, .slice none 0 0] 121 120
  clear hzW hvW
  go_wp2_with fail
  rw [← hW]
  clear hW
  have hRW : Rd W g A l.length c k er := h.kept (hbW.block g h.lt)
  refine (zero_neg W g sz hs).mono ?_
  rintro e w1 ⟨rfl, q, rfl⟩
  go_wp2
  exact ⟨rfl, rfl, below_drewN hbW q⟩

set_option maxHeartbeats 1000000 in
theorem piece_zero_short (w : World) (g : Nat) (A : Option Addr) (l : List UInt8) (c k : Nat) (er : Int) (h : Rd w g A l.length c k er) (sz : Int) (h0 : 0 ≤ sz) (hn : l.length ≤ 140737488420864) (hk : k ≤ l.length) (hs : (l.length : Int) - k < sz) :
    Calls Tryz.prog 100 #[.pointer (some ⟨g, 0, none⟩), .agg #[.int .i64 3, .int .i64 sz]] w fun e w' => PiecePost w g A l c k er (.gave 10) e w' := by
  go_enter Tryz.func100, Tryz.ntmps100
  obtain ⟨W, hW, hbW, hzW, hvW⟩ := two_vars w #[.int .i64 3, .int .i64 sz] #[.int .u64 0, .slice none 0 0] 121 120
  clear hzW hvW
  go_wp2_with fail
  rw [← hW]
  clear hW
  have hRW : Rd W g A l.length c k er := h.kept (hbW.block g h.lt)
  refine (zero_short W g A _ c k er hRW sz h0 hn hk hs).mono ?_
  rintro e w1 ⟨rfl, q, rfl⟩
  go_wp2
  exact ⟨rfl, rfl, below_drewN hbW q⟩

set_option maxHeartbeats 1000000 in
theorem piece_rest_bad (w : World) (g : Nat) (A : Option Addr) (l : List UInt8) (c k : Nat) (er : Int) (h : Rd w g A l.length c k er) (sz : Int) (hs : ¬ sz = 0) :
    Calls Tryz.prog 100 #[.pointer (some ⟨g, 0, none⟩), .agg #[.int .i64 4, .int .i64 sz]] w fun e w' => PiecePost w g A l c k er (.gave 1) e w' := by
  go_enter Tryz.func100, Tryz.ntmps100
  obtain ⟨W, hW, hbW, hzW, hvW⟩ := two_vars w #[.int .i64 4, .int .i64 sz] #[.int .u64 0, .slice none 0 0] 121 120
  clear hzW hvW
  go_wp2_with fail
  rw [← hW]
  clear hW
  have hRW : Rd W g A l.length c k er := h.kept (hbW.block g h.lt)
  refine (rest_bad W g sz hs).mono ?_
  rintro e w1 ⟨rfl, q, rfl⟩
  go_wp2
  exact ⟨rfl, rfl, below_drewN hbW q⟩

set_option maxHeartbeats 1000000 in
theorem piece_zero (w : World) (g : Nat) (A : Option Addr) (l : List UInt8) (c k : Nat) (er : Int) (h : Rd w g A l.length c k er) (m : Nat) (hk : k + m ≤ l.length) (hl : l.length ≤ c) (hn : l.length ≤ 140737488420864) (hb : Byt w g A l) :
    Calls Tryz.prog 100 #[.pointer (some ⟨g, 0, none⟩), .agg #[.int .i64 3, .int .i64 (m : Int)]] w fun e w' =>
      (AllZero ((l.drop k).take m) ∧ PiecePost w g A l c k er (.got 0 [] m) e w') ∨ (¬ AllZero ((l.drop k).take m) ∧ PiecePost w g A l c k er (.gave 11) e w') := by
  have hcall := fun (W : World) (hRW : Rd W g A l.length c k er) (hbyW : Byt W g A l) => zero_any W g A l c k er hRW m hl hn hk hbyW
  obtain ⟨r, hr⟩ : ∃ r, r = (l.drop k).take m := ⟨_, rfl⟩
  rw [← hr] at hcall ⊢
  have HCALL := hide hcall
  clear hcall hr
  go_enter Tryz.func100, Tryz.ntmps100
  obtain ⟨W, hW, hbW, hzW, hvW⟩ := two_vars w #[.int .i64 3, .int .i64 (m : Int)] #[.int .u64 0, .slice none 0 0] 121 120
  have HZ := hide hzW
  have HV := hide hvW
  clear hzW hvW
  go_wp2_with fail
  rw [← hW]
  have hRW : Rd W g A l.length c k er := h.kept (hbW.block g h.lt)
  have hbyW : Byt W g A l := by have := h.lt; exact hb.below (hbW.mono (by omega))
  refine (HCALL.out W hRW hbyW).mono ?_
  rintro e w1 (⟨hz, rfl, hR1, hg1⟩ | ⟨hz, rfl, q, rfl⟩)
  · have HZR := hide hz
    clear hz
    have hv1 : w1.heap[w.heap.size + 1]? = some (.cells #[.int .u64 0, .slice none 0 0] 120 (0, 0)) := (hg1.block _ (by have := HZ.out; omega) (by have := h.lt; simp; omega)).trans HV.out
    have c0 : w1.cell? ⟨w.heap.size + 1, 0, none⟩ = some (.int .u64 0) := cell_of_row w1 _ 0 _ _ (0, 0) hv1
    have c1 : w1.cell? ⟨w.heap.size + 1, 1, none⟩ = some (.slice none 0 0) := cell_of_row w1 _ 1 _ _ (0, 0) hv1
    have f0 : w1.frozen? ⟨w.heap.size + 1, 0, none⟩ = false := frozen_of_row w1 _ 0 _ _ hv1
    have f1 : w1.frozen? ⟨w.heap.size + 1, 1, none⟩ = false := frozen_of_row w1 _ 1 _ _ hv1
    obtain ⟨r0, r1, hfin⟩ := two_set hv1 (.int .u64 0) (.slice none 0 0)
    have hend := hfin (Below.row hbW (some g)) hg1 hR1 (by have := h.lt; omega) (Nat.le_succ _)
    have HEND := hide hend
    clear hW hv1 hfin hend
    go_wp2
    exact bodyPost_ret (v := .agg #[.int .u64 0, .slice none 0 0]) (by simp [results, Tryz.results100, go_sem, r0, r1]) rfl (.inl ⟨HZR.out, ⟨_, rfl, OwnB.nil _ _⟩, HEND.out⟩)
  · have HZR := hide hz
    clear hz hW
    go_wp2
    exact ⟨rfl, .inr ⟨HZR.out, rfl, below_drewN hbW q⟩⟩

set_option maxHeartbeats 1000000 in
theorem piece_other (w : World) (g : Nat) (A : Option Addr) (l : List UInt8) (c k : Nat) (er : Int) (kd sz : Int) (h0 : ¬ kd = 0) (h1 : ¬ kd = 1) (h2 : ¬ kd = 2) (h3 : ¬ kd = 3) (h4 : ¬ kd = 4) :
    Calls Tryz.prog 100 #[.pointer (some ⟨g, 0, none⟩), .agg #[.int .i64 kd, .int .i64 sz]] w fun e w' => PiecePost w g A l c k er (.gave 1) e w' := by
  go_enter Tryz.func100, Tryz.ntmps100
  go_wp2
  exact ⟨rfl, rfl, ((Below.refl _ _).alloc (Nat.le_refl _) _).alloc (by simp) _⟩
end Go.Proofs.YtihakjcccbionaaGreatDoor

end
section
/-
  A Reader's piece of whatever kind and size: what it was, or the error by which it gives up.
-/
namespace Go.Proofs.YtihakjcccbionaaGreatDoor
open Go.RowKit
set_option maxRecDepth 100000

theorem piece_any (w : World) (g : Nat) (A : Option Addr) (l : List UInt8) (c k : Nat) (er : Int) (kd sz : Int) (h : Rd w g A l.length c k er) (hk : k ≤ l.length) (hl : l.length ≤ c) (hn : l.length ≤ 140737488420864) (hb : Byt w g A l) :
    Calls Tryz.prog 100 #[.pointer (some ⟨g, 0, none⟩), .agg #[.int .i64 kd, .int .i64 sz]] w fun e w' => PiecePost w g A l c k er (pieceS l k kd sz) e w' := by
  by_cases h0 : kd = 0
  · subst h0
    by_cases hs : 1 ≤ sz ∧ sz ≤ 8
    · by_cases hf : sz ≤ (l.length : Int) - k
      · obtain ⟨m, rfl⟩ : ∃ m : Nat, sz = (m : Int) := ⟨sz.toNat, by omega⟩
        have e : pieceS l k 0 (m : Int) = .got (numS ((l.drop k).take m)) [] m := by unfold pieceS; rw [if_pos rfl, if_pos hs, if_pos hf]; simp
        rw [e]
        exact piece_num w g A l c k er h m (by omega) (by omega) (by omega) hl hn hb
      · have e : pieceS l k 0 sz = .gave 10 := by unfold pieceS; rw [if_pos rfl, if_pos hs, if_neg hf]
        rw [e]
        exact piece_num_short w g A l c k er h sz hs.1 hs.2 hn hk (by omega)
    · have e : pieceS l k 0 sz = .gave 1 := by unfold pieceS; rw [if_pos rfl, if_neg hs]
      rw [e]
      exact piece_num_bad w g A l c k er h sz hs
  by_cases h1 : kd = 1
  · subst h1
    by_cases hs : sz < 0
    · have e : pieceS l k 1 sz = .gave 1 := by unfold pieceS; rw [if_neg (by decide), if_pos rfl, if_pos hs]
      rw [e]
      exact piece_take_neg w g A l c k er h sz hs
    · by_cases hf : sz ≤ (l.length : Int) - k
      · obtain ⟨m, rfl⟩ : ∃ m : Nat, sz = (m : Int) := ⟨sz.toNat, by omega⟩
        have e : pieceS l k 1 (m : Int) = .got 0 ((l.drop k).take m) m := by unfold pieceS; rw [if_neg (by decide), if_pos rfl, if_neg hs, if_pos hf]; simp
        rw [e]
        exact piece_take w g A l c k er h m (by omega) hl hn hb
      · have e : pieceS l k 1 sz = .gave 10 := by unfold pieceS; rw [if_neg (by decide), if_pos rfl, if_neg hs, if_neg hf]
        rw [e]
        exact piece_take_short w g A l c k er h sz (by omega) hn hk (by omega)
  by_cases h2 : kd = 2
  · subst h2
    by_cases hs : sz < 0
    · have e : pieceS l k 2 sz = .gave 1 := by unfold pieceS; rw [if_neg (by decide), if_neg (by decide), if_pos rfl, if_pos hs]
      rw [e]
      exact piece_skip_neg w g A l c k er h sz hs
    · by_cases hf : sz ≤ (l.length : Int) - k
      · obtain ⟨m, rfl⟩ : ∃ m : Nat, sz = (m : Int) := ⟨sz.toNat, by omega⟩
        have e : pieceS l k 2 (m : Int) = .got 0 [] m := by unfold pieceS; rw [if_neg (by decide), if_neg (by decide), if_pos rfl, if_neg hs, if_pos hf]; simp
        rw [e]
        exact piece_skip w g A l c k er h m (by omega) hl hn hb
      · have e : pieceS l k 2 sz = .gave 10 := by unfold pieceS; rw [if_neg (by decide), if_neg (by decide), if_pos rfl, if_neg hs, if_neg hf]
        rw [e]
        exact piece_skip_short w g A l c k er h sz (by omega) hn hk (by omega)
  by_cases h3 : kd = 3
  · subst h3
    by_cases hs : sz < 0
    · have e : pieceS l k 3 sz = .gave 1 := by unfold pieceS; rw [if_neg (by decide), if_neg (by decide), if_neg (by decide), if_pos rfl, if_pos hs]
      rw [e]
      exact piece_zero_neg w g A l c k er h sz hs
    · by_cases hf : sz ≤ (l.length : Int) - k
      · obtain ⟨m, rfl⟩ : ∃ m : Nat, sz = (m : Int) := ⟨sz.toNat, by omega⟩
        have e : pieceS l k 3 (m : Int) = if ((l.drop k).take m).all (fun x => x == 0) = true then PRes.got 0 [] m else PRes.gave 11 := by unfold pieceS; rw [if_neg (by decide), if_neg (by decide), if_neg (by decide), if_pos rfl, if_neg hs, if_pos hf]; simp
        rw [e]
        refine (piece_zero w g A l c k er h m (by omega) hl hn hb).mono fun e w' hp => ?_
        rcases hp with ⟨hz, hp⟩ | ⟨hz, hp⟩
        · rw [if_pos ((allZero_iff _).1 hz)]; exact hp
        · rw [if_neg (fun e => hz ((allZero_iff _).2 e))]; exact hp
      · have e : pieceS l k 3 sz = .gave 10 := by unfold pieceS; rw [if_neg (by decide), if_neg (by decide), if_neg (by decide), if_pos rfl, if_neg hs, if_neg hf]
        rw [e]
        exact piece_zero_short w g A l c k er h sz (by omega) hn hk (by omega)
  by_cases h4 : kd = 4
  · subst h4
    by_cases hs : sz = 0
    · subst hs
      have e : pieceS l k 4 0 = .got 0 (l.drop k) (l.length - k) := by unfold pieceS; rw [if_neg (by decide), if_neg (by decide), if_neg (by decide), if_neg (by decide), if_pos rfl, if_pos rfl]
      rw [e]
      exact piece_rest w g A l c k er h hk hl hn hb
    · have e : pieceS l k 4 sz = .gave 1 := by unfold pieceS; rw [if_neg (by decide), if_neg (by decide), if_neg (by decide), if_neg (by decide), if_pos rfl, if_neg hs]
      rw [e]
      exact piece_rest_bad w g A l c k er h sz hs
  have e : pieceS l k kd sz = .gave 1 := by unfold pieceS; rw [if_neg h0, if_neg h1, if_neg h2, if_neg h3, if_neg h4]
  rw [e]
  exact piece_other w g A l c k er kd sz h0 h1 h2 h3 h4

/-- what was read stands within the bytes. -/
theorem pieceS_le {l : List UInt8} {k N m : Nat} {kd sz : Int} {b : List UInt8} (h : pieceS l k kd sz = .got N b m) (hk : k ≤ l.length) : k + m ≤ l.length := by
  unfold pieceS at h
  repeat' split at h
  all_goals first | cases h | skip
  all_goals omega
end Go.Proofs.YtihakjcccbionaaGreatDoor

end
section
/-
  The walk of the closure that Run hands on: piece after piece, up to the first error.
-/
namespace Go.Proofs.YtihakjcccbionaaGreatDoor
open Go.RowKit
set_option maxRecDepth 100000

/-- what pieces are, how many bytes were read, the error (0: none). -/
def runS (l : List UInt8) : List (Int × Int) → Nat → List (Nat × List UInt8) × Nat × Nat
  | [], k => ([], k, 0)
  | (kd, sz) :: t, k =>
    match pieceS l k kd sz with
    | .gave er => ([], k, er)
    | .got N b m => ((N, b) :: (runS l t (k + m)).1, (runS l t (k + m)).2)

/-- the slice that begins at A reads, below block B, as pieces. -/
def Ops (w : World) (B : Nat) (A : Option Addr) (l : List (Int × Int)) : Prop :=
  0 < l.length → ∃ b off, A = some ⟨b, off, none⟩ ∧ b < B ∧ ∀ i (h : i < l.length), w.cell? ⟨b, off + i * 2, none⟩ = some (.int .i64 l[i].1) ∧ w.cell? ⟨b, off + i * 2 + 1, none⟩ = some (.int .i64 l[i].2)

/-- one thing that was read: its number, its slice, the bytes that it holds. -/
structure VItem where
  N : Nat
  v : Value
  b : List UInt8
def itemCells (l : List VItem) : List Value := l.flatMap fun it => [.int .u64 (it.N : Int), it.v]
/-- the slice value vv owns, from block 'base' on, a row of things that were read. -/
structure OwnV (w : World) (base : Nat) (vv : Value) (l : List VItem) : Prop where
  row : w.ownsRow base 120 2 vv l.length (itemCells l)
  each : ∀ it ∈ l, OwnB w base it.v it.b

theorem info_val : (Tryz.prog.info? 120).map (fun i => (i.zero, i.size, i.bytes)) = some (some (.agg #[.int .u64 0, .slice none 0 0]), 2, 32) := by kernel_rfl

theorem one_cell {w : World} {b : Nat} {v : Value} {t : TypeId} (h : w.heap[b]? = some (.cells #[v] t (0, 0))) : w.cell? ⟨b, 0, none⟩ = some v := cell_of_row w b 0 _ _ (0, 0) h
theorem two_cells (w : World) (a b : Value) (t : TypeId) : (w.alloc (.cells #[a, b] t)).cell? ⟨w.heap.size, 0, none⟩ = some a ∧ (w.alloc (.cells #[a, b] t)).cell? ⟨w.heap.size, 1, none⟩ = some b :=
  ⟨cell_of_row _ _ 0 _ _ (0, 0) (heap_alloc_new w _), cell_of_row _ _ 1 _ _ (0, 0) (heap_alloc_new w _)⟩
theorem own_ne {w : World} {base g n s : Nat} {e t : TypeId} {v : Value} {xs : List Value} {cs : Array Value} {fr : Nat × Nat} (h : w.ownsRow base e s v n xs) (hb : w.heap[g]? = some (.cells cs t fr)) (hne : e ≠ t) : v.ownBlock = none ∨ v.ownBlock ≠ some g := by
  rcases h.2 with ⟨e1, _⟩ | ⟨g', cap, cur, e1, _, hh, _⟩
  · exact .inl (by rw [e1]; rfl)
  · refine .inr ?_
    rw [e1]
    simp only [Value.ownBlock, ne_eq, Option.some.injEq]
    intro e2
    rw [e2, hb] at hh
    injection hh with hh
    injection hh with _ h2
    exact hne h2.symm
theorem own_own_ne {w : World} {base base' n n' s s' : Nat} {e t : TypeId} {v v' : Value} {xs xs' : List Value} (h : w.ownsRow base e s v n xs) (h' : w.ownsRow base' t s' v' n' xs') (hne : e ≠ t) : v.ownBlock = none ∨ v.ownBlock ≠ v'.ownBlock := by
  rcases h'.2 with ⟨e1, _⟩ | ⟨g', cap, cur, e1, _, hh, _⟩
  · rcases h.2 with ⟨e2, _⟩ | ⟨g, cap, cur, e2, _⟩
    · exact .inl (by rw [e2]; rfl)
    · exact .inr (by rw [e1, e2]; simp [Value.ownBlock])
  · have := own_ne h hh hne
    rw [e1]; exact this

/-- all that was there is as it was, but for two blocks. -/
structure Fr2 (w w' : World) (g bv : Nat) : Prop where
  os : w'.os = w.os
  tape : w'.tape = w.tape
  output : w'.output = w.output
  size : w.heap.size ≤ w'.heap.size
  block : ∀ k, k < w.heap.size → k ≠ g → k ≠ bv → w'.heap[k]? = w.heap[k]?
theorem Fr2.refl (w : World) (g bv : Nat) : Fr2 w w g bv := ⟨rfl, rfl, rfl, Nat.le_refl _, fun _ _ _ _ => rfl⟩
theorem Fr2.grown {w a b : World} {g bv : Nat} {row : Option Nat} (h : Fr2 w a g bv) (k : a.grownBy b row) (hr : ∀ i, row = some i → w.heap.size ≤ i ∨ i = g ∨ i = bv) : Fr2 w b g bv :=
  ⟨k.os.trans h.os, k.tape.trans h.tape, k.output.trans h.output, Nat.le_trans h.size k.size, fun i hi h1 h2 => (k.block i (Nat.lt_of_lt_of_le hi h.size) (fun e => by
    rcases hr i e.symm with h3 | h3 | h3
    · omega
    · exact h1 h3
    · exact h2 h3)).trans (h.block i hi h1 h2)⟩

/-- what stands behind some pieces: the Reader at k, the box with what was read, nothing else written. -/
structure RunInv (w wr : World) (g bv : Nat) (A : Option Addr) (n c k : Nat) (vv : Value) (items : List VItem) : Prop where
  rd : Rd wr g A n c k 0
  box : wr.heap[bv]? = some (.cells #[vv] 76 (0, 0))
  own : OwnV wr w.heap.size vv items
  fr : Fr2 w wr g bv

theorem RunInv.start {w : World} {g bv : Nat} {A : Option Addr} {n c k : Nat} (h : Rd w g A n c k 0) (hb : w.heap[bv]? = some (.cells #[.slice none 0 0] 76 (0, 0))) : RunInv w w g bv A n c k (.slice none 0 0) [] :=
  ⟨h, hb, ⟨World.ownsRow_nil _ _ _ _, fun _ h => by cases h⟩, Fr2.refl _ _ _⟩

section
variable {w wr w1 w2 w4 : World} {g bv : Nat} {A : Option Addr} {n c k m : Nat} {vv v vv' : Value} {items : List VItem}
theorem OwnV.kept {base : Nat} {row : Option Nat} (h : OwnV wr base vv items) (hg : wr.grownBy w1 row) (h1 : vv.ownBlock = none ∨ vv.ownBlock ≠ row) (h2 : ∀ it ∈ items, it.v.ownBlock = none ∨ it.v.ownBlock ≠ row) : OwnV w1 base vv items :=
  ⟨h.row.kept hg h1, fun it hit => (h.each it hit).kept hg (h2 it hit)⟩
/-- behind new blocks alone. -/
theorem RunInv.below (h : RunInv w wr g bv A n c k vv items) (hb : Below wr.heap.size wr w1) : RunInv w w1 g bv A n c k vv items := by
  have hg := Below.row hb none
  refine ⟨h.rd.grown hg (by simp), (hb.block bv ?_).trans h.box, h.own.kept hg ?_ (fun it hit => ?_), h.fr.grown hg (by simp)⟩
  · exact (Array.getElem?_eq_some_iff.1 h.box).1
  · rcases h.own.row.2 with ⟨e, _⟩ | ⟨_, _, _, e, _⟩
    · exact .inl (by rw [e]; rfl)
    · exact .inr (by rw [e]; simp [Value.ownBlock])
  · rcases (h.own.each it hit).2 with ⟨e, _⟩ | ⟨_, _, _, e, _⟩
    · exact .inl (by rw [e]; rfl)
    · exact .inr (by rw [e]; simp [Value.ownBlock])

/-- behind a piece that was read, and laid behind the others. -/
theorem RunInv.step {N : Nat} {b : List UInt8} {o : Obj} {q : Nat} (h : RunInv w wr g bv A n c k vv items) (hne : g ≠ bv)
    (hg2 : ((wr.alloc o).drewN q).grownBy w2 (some g)) (hR2 : Rd w2 g A n c (k + m) 0) (hv : OwnB w2 ((wr.alloc o).drewN q).heap.size v b)
    (hrow : w4.ownsRow w.heap.size 120 2 vv' (items.length + 1) (itemCells items ++ [.int .u64 (N : Int), v])) (hg4 : (w2.alloc (.cells #[.int .u64 (N : Int), v] 120)).grownBy w4 vv.ownBlock) :
    RunInv w (w4.setCell ⟨bv, 0, none⟩ vv') g bv A n c (k + m) vv' (items ++ [⟨N, v, b⟩]) := by
  have hbvlt : bv < wr.heap.size := (Array.getElem?_eq_some_iff.1 h.box).1
  have hI1 : RunInv w ((wr.alloc o).drewN q) g bv A n c k vv items := h.below (below_drewN ((Below.refl _ _).alloc (Nat.le_refl _) _) q)
  have hbox2 : w2.heap[bv]? = some (.cells #[vv] 76 (0, 0)) := (hg2.block bv (by have := hI1.box; exact (Array.getElem?_eq_some_iff.1 this).1) (by simp; omega)).trans hI1.box
  have hown2 : OwnV w2 w.heap.size vv items := hI1.own.kept hg2 (own_ne hI1.own.row hI1.rd.blk (by decide)) (fun it hit => own_ne (hI1.own.each it hit) hI1.rd.blk (by decide))
  have hfr2 : Fr2 w w2 g bv := hI1.fr.grown hg2 (fun i e => by cases e; exact .inr (.inl rfl))
  have hR3 := hR2.alloc (.cells #[.int .u64 (N : Int), v] 120)
  have hb3 : Below w2.heap.size w2 (w2.alloc (.cells #[.int .u64 (N : Int), v] 120)) := (Below.refl _ _).alloc (Nat.le_refl _) _
  have hI3 : RunInv w (w2.alloc (.cells #[.int .u64 (N : Int), v] 120)) g bv A n c (k + m) vv items := RunInv.below ⟨hR2, hbox2, hown2, hfr2⟩ hb3
  have hv3 : OwnB (w2.alloc (.cells #[.int .u64 (N : Int), v] 120)) w.heap.size v b := (hv.base (by have := h.fr.size; simp; omega)).alloc _
  generalize w2.alloc (.cells #[.int .u64 (N : Int), v] 120) = w3 at hg4 hI3 hv3
  have hb4 : w4.heap[bv]? = some (.cells #[vv] 76 (0, 0)) := (hg4.block bv (Array.getElem?_eq_some_iff.1 hI3.box).1 (by
    rcases own_ne hI3.own.row hI3.box (by decide) with e | e
    · rw [e]; simp
    · exact fun e2 => e e2.symm)).trans hI3.box
  have hR4 : Rd w4 g A n c (k + m) 0 := hI3.rd.grown hg4 (by
    rcases own_ne hI3.own.row hI3.rd.blk (by decide) with e | e
    · rw [e]; simp
    · exact e)
  have hs := grown_set w4 bv 0 vv'
  refine ⟨hR4.grown hs (by simp; omega), heap_setCell_same w4 bv 0 _ _ _ hb4, ⟨?_, fun it hit => ?_⟩, ?_⟩
  · have := hrow.kept hs (own_ne hrow hb4 (by decide))
    rw [List.length_append, List.length_singleton]
    have e : itemCells (items ++ [⟨N, v, b⟩]) = itemCells items ++ [.int .u64 (N : Int), v] := by simp [itemCells]
    rw [e]; exact this
  · have hall : OwnB w3 w.heap.size it.v it.b := by
      rcases List.mem_append.1 hit with hit | hit
      · exact hI3.own.each it hit
      · rw [List.mem_singleton] at hit
        rw [hit]; exact hv3
    have h4 : OwnB w4 w.heap.size it.v it.b := hall.kept hg4 (own_own_ne hall hI3.own.row (by decide))
    exact h4.kept hs (own_ne h4 hb4 (by decide))
  · refine (hI3.fr.grown hg4 (fun i e => ?_)).grown hs (fun i e => by cases e; exact .inr (.inr rfl))
    exact .inl (World.ownsRow.lt hI3.own.row i e).1
end

/-- the box behind a piece, and behind the append. -/
theorem RunInv.box4 {w wr w2 w4 : World} {g bv : Nat} {A : Option Addr} {n c k q : Nat} {vv : Value} {items : List VItem} {o o' : Obj} (h : RunInv w wr g bv A n c k vv items) (hne : g ≠ bv)
    (hg2 : ((wr.alloc o).drewN q).grownBy w2 (some g)) : w2.heap[bv]? = some (.cells #[vv] 76 (0, 0)) ∧ OwnV (w2.alloc o') w.heap.size vv items ∧ ((w2.alloc o').grownBy w4 vv.ownBlock → w4.heap[bv]? = some (.cells #[vv] 76 (0, 0))) := by
  have hI1 : RunInv w ((wr.alloc o).drewN q) g bv A n c k vv items := h.below (below_drewN ((Below.refl _ _).alloc (Nat.le_refl _) _) q)
  have hlt1 : bv < ((wr.alloc o).drewN q).heap.size := (Array.getElem?_eq_some_iff.1 hI1.box).1
  have hbox2 : w2.heap[bv]? = some (.cells #[vv] 76 (0, 0)) := (hg2.block bv hlt1 (by simp; omega)).trans hI1.box
  have hown2 : OwnV w2 w.heap.size vv items := hI1.own.kept hg2 (own_ne hI1.own.row hI1.rd.blk (by decide)) (fun it hit => own_ne (hI1.own.each it hit) hI1.rd.blk (by decide))
  have hown3 : OwnV (w2.alloc o') w.heap.size vv items := ⟨hown2.row.alloc o', fun it hit => (hown2.each it hit).alloc o'⟩
  have hlt2 : bv < w2.heap.size := (Array.getElem?_eq_some_iff.1 hbox2).1
  have hbox3 : (w2.alloc o').heap[bv]? = some (.cells #[vv] 76 (0, 0)) := (Below.heap_alloc w2 o' bv hlt2).trans hbox2
  refine ⟨hbox2, hown3, fun hg4 => (hg4.block bv (by simp; omega) ?_).trans hbox3⟩
  rcases own_ne hown3.row hbox3 (by decide) with e | e
  · rw [e]; simp
  · exact fun e2 => e e2.symm

theorem pieceS_gave {l : List UInt8} {k : Nat} {kd sz : Int} {er : Nat} (h : pieceS l k kd sz = .gave er) : er ≠ 0 := by
  unfold pieceS at h
  repeat' split at h
  all_goals first | cases h | skip
  all_goals omega

/-- what becomes of the closure: all pieces were read; or the first one that gave up. -/
def RunCPost (w : World) (g bv : Nat) (A : Option Addr) (n c : Nat) (res : List (Nat × List UInt8) × Nat × Nat) (e : Ending) (w' : World) : Prop :=
  ∃ vv items, RunInv w w' g bv A n c res.2.1 vv items ∧ items.map (fun it => (it.N, it.b)) = res.1 ∧ ((res.2.2 = 0 ∧ e = .returned (.tuple #[])) ∨ (res.2.2 ≠ 0 ∧ e = giveUp res.2.2))
end Go.Proofs.YtihakjcccbionaaGreatDoor

end
section
/-
  The walk of the closure that Run hands on: piece after piece, up to the first error.
-/
namespace Go.Proofs.YtihakjcccbionaaGreatDoor
open Go.RowKit
set_option maxRecDepth 100000

set_option maxHeartbeats 4000000 in
theorem runC_any (w : World) (g bl bv : Nat) (A Al : Option Addr) (l : List UInt8) (c cl k0 : Nat) (ops : List (Int × Int)) (h : Rd w g A l.length c k0 0) (hk0 : k0 ≤ l.length) (hl : l.length ≤ c) (hn : l.length ≤ 140737488420864) (hb : Byt w g A l)
    (hops : Ops w g Al ops) (hno : ops.length ≤ 1099511627776) (hbl : w.heap[bl]? = some (.cells #[.slice Al ops.length cl] 77 (0, 0))) (hbv : w.heap[bv]? = some (.cells #[.slice none 0 0] 76 (0, 0))) (hgv : g < bv) :
    Calls Tryz.prog 99 #[.pointer (some ⟨bl, 0, none⟩), .pointer (some ⟨bv, 0, none⟩), .pointer (some ⟨g, 0, none⟩)] w fun e w' => RunCPost w g bv A l.length c (runS l ops k0) e w' := by
  have hcl : w.cell? ⟨bl, 0, none⟩ = some (.slice Al ops.length cl) := cell_of_row w bl 0 _ _ (0, 0) hbl
  obtain ⟨i0, hi0, hz0, hz1, hz2⟩ := info_parts info_val
  have hglt : g < w.heap.size := h.lt
  have hinv := RunInv.start h hbv
  have HRES : Hid (runS l ops k0 = ([] ++ (runS l (ops.drop 0) k0).1, (runS l (ops.drop 0) k0).2)) := hide (by simp)
  obtain ⟨res, hres⟩ : ∃ res, res = runS l ops k0 := ⟨_, rfl⟩
  rw [← hres] at HRES ⊢
  clear hres hbv
  go_enter Tryz.func99, Tryz.ntmps99
  go_wp2
  go_loopw [4, 7] (fun _ i wr => ∃ (j k : Nat) (vv : Value) (items : List VItem), j ≤ ops.length ∧ i = .int .i64 (j : Int) ∧ k ≤ l.length ∧ items.length ≤ j ∧ RunInv w wr g bv A l.length c k vv items ∧
      Hid (res = (items.map (fun it => (it.N, it.b)) ++ (runS l (ops.drop j) k).1, (runS l (ops.drop j) k).2))) (fun _ i _ => ops.length - (intOf i).toNat)
  case atStart => exact ⟨0, k0, _, [], by omega, rfl, hk0, Nat.le_refl _, hinv, HRES⟩
  case round =>
    obtain ⟨j, k, vv, items, hj, rfl, hk, hil, hI, hr⟩ := hrel
    clear hinv HRES hcl
    by_cases hlt : j < ops.length
    · obtain ⟨b, off, rfl, hbB, hcell⟩ := hops (by omega)
      have hnb : b ≠ bv := by omega
      obtain ⟨hk1, hs1⟩ := hcell j hlt
      have hbw : ∀ o, wr.cell? ⟨b, o, none⟩ = w.cell? ⟨b, o, none⟩ := fun o => World.cell?_of_block (w := w) (hI.fr.block b (by omega) (by omega) hnb)
      obtain ⟨kd, hkd⟩ : ∃ kd, kd = ops[j].1 := ⟨_, rfl⟩
      obtain ⟨sz, hsz⟩ : ∃ sz, sz = ops[j].2 := ⟨_, rfl⟩
      have hk2 : wr.cell? ⟨b, off + j * 2, none⟩ = some (.int .i64 kd) := by rw [hbw, hkd]; exact hk1
      have hs2 : wr.cell? ⟨b, off + j * 2 + 1, none⟩ = some (.int .i64 sz) := by rw [hbw, hsz]; exact hs1
      have hdrop : runS l (ops.drop j) k = (match pieceS l k kd sz with
          | .gave er => ([], k, er)
          | .got N b m => ((N, b) :: (runS l (ops.drop (j + 1)) (k + m)).1, (runS l (ops.drop (j + 1)) (k + m)).2)) := by
        rw [List.drop_eq_getElem_cons hlt, hkd, hsz]; rfl
      have hbyr : Byt wr g A l := hb.keep (fun p hp => World.cell?_of_block (w := w) (hI.fr.block p.block (by omega) (by omega) (by omega)))
      have hvv : wr.cell? ⟨bv, 0, none⟩ = some vv := cell_of_row wr bv 0 _ _ (0, 0) hI.box
      have hgr := hI.rd.lt
      have hbvr : bv < wr.heap.size := (Array.getElem?_eq_some_iff.1 hI.box).1
      have hpc : ∀ n, Calls Tryz.prog 100 #[.pointer (some ⟨g, 0, none⟩), .agg #[.int .i64 kd, .int .i64 sz]] ((wr.alloc (.cells #[.int .i64 kd, .int .i64 sz] 121)).drewN n) fun e w' => PiecePost ((wr.alloc (.cells #[.int .i64 kd, .int .i64 sz] 121)).drewN n) g A l c k 0 (pieceS l k kd sz) e w' := fun n =>
        piece_any _ g A l c k 0 kd sz ((hI.rd.alloc _).drewN n) hk hl hn ((hbyr.keep (fun p hp => World.cell?_alloc_lt wr _ p (by omega))).drewN n)
      have HPC := hide hpc
      have HD := hide hdrop
      clear hcell hkd hsz hk1 hs1 hbw hdrop hpc hbyr
      cases hp : pieceS l k kd sz with
      | gave er =>
        have hne := pieceS_gave hp
        have HPG : Hid (∀ n, Calls Tryz.prog 100 #[.pointer (some ⟨g, 0, none⟩), .agg #[.int .i64 kd, .int .i64 sz]] ((wr.alloc (.cells #[.int .i64 kd, .int .i64 sz] 121)).drewN n) fun e w' => e = giveUp er ∧ Below wr.heap.size wr w') := hide (fun n => by
          have := HPC.out n
          rw [hp] at this
          exact this.mono fun e w' ⟨h1, h2⟩ => ⟨h1, ((below_drewN ((Below.refl _ _).alloc (Nat.le_refl _) _) n).trans (h2.mono (by simp)))⟩)
        have hend : ∀ w', Below wr.heap.size wr w' → RunCPost w g bv A l.length c res (giveUp er) w' := fun w' hbel => by
          refine ⟨vv, items, ?_, ?_, .inr ⟨?_, ?_⟩⟩
          · rw [hr.out, HD.out, hp]; exact hI.below hbel
          · rw [hr.out, HD.out, hp]; simp
          · rw [hr.out, HD.out, hp]; exact hne
          · rw [hr.out, HD.out, hp]
        have HE := hide hend
        clear hp HPC hend hr HD
        go_wp2
        refine wp_region_any (by kernel_rfl) ?_
        try (change wpAny _ _ _ _ _ _ _ (World.drew _))
        refine wpAny_ready (rs := [0, 1]) (by kernel_rfl) (by simp) ?_
        refine AllReady.cons rfl (fun K hK => ?_) ?_
        · go_simp
          refine hK _ _ ?_
          clear hK K
          refine wpAny_ready (rs := [1]) (by kernel_rfl) (by simp) ?_
          refine AllReady.cons rfl (fun K hK => ?_) AllReady.nil
          go_simp
          refine hK _ _ ?_
          clear hK K
          refine wpAny_ready (rs := [2]) (by kernel_rfl) (by simp) ?_
          refine AllReady.cons rfl (fun K hK => ?_) AllReady.nil
          go_simp
          go_wp2_with (go_at_call 100; refine (HPG.out 1).mono ?_; rintro e w1 ⟨rfl, hbel⟩; exact ⟨rfl, HE.out _ hbel⟩)
        · refine AllReady.cons rfl (fun K hK => ?_) AllReady.nil
          go_simp
          refine hK _ _ ?_
          clear hK K
          refine wpAny_ready (rs := [0, 2]) (by kernel_rfl) (by simp) ?_
          refine AllReady.cons rfl (fun K hK => ?_) ?_
          · go_simp
            refine hK _ _ ?_
            clear hK K
            refine wpAny_ready (rs := [2]) (by kernel_rfl) (by simp) ?_
            refine AllReady.cons rfl (fun K hK => ?_) AllReady.nil
            go_simp
            go_wp2_with (go_at_call 100; refine (HPG.out 1).mono ?_; rintro e w1 ⟨rfl, hbel⟩; exact ⟨rfl, HE.out _ hbel⟩)
          · refine AllReady.cons rfl (fun K hK => ?_) AllReady.nil
            go_simp
            go_wp2_with (go_at_call 100; refine (HPG.out 1).mono ?_; rintro e w1 ⟨rfl, hbel⟩; exact ⟨rfl, HE.out _ hbel⟩)
      | got N b' m =>
        have hkm := pieceS_le hp hk
        have HPS : Hid (∀ n, Calls Tryz.prog 100 #[.pointer (some ⟨g, 0, none⟩), .agg #[.int .i64 kd, .int .i64 sz]] ((wr.alloc (.cells #[.int .i64 kd, .int .i64 sz] 121)).drewN n) fun e w' =>
            (∃ A3 c3, e = .returned (.agg #[.int .u64 (N : Int), .slice A3 b'.length c3]) ∧ OwnB w' ((wr.alloc (.cells #[.int .i64 kd, .int .i64 sz] 121)).drewN n).heap.size (.slice A3 b'.length c3) b') ∧
            Rd w' g A l.length c (k + m) 0 ∧ ((wr.alloc (.cells #[.int .i64 kd, .int .i64 sz] 121)).drewN n).grownBy w' (some g)) := hide (fun n => by
          have := HPC.out n
          rw [hp] at this
          refine this.mono fun e w' ⟨⟨v, h1, h2⟩, h3, h4⟩ => ?_
          obtain ⟨A3, c3, rfl, _⟩ := h2.shape
          exact ⟨⟨A3, c3, h1, h2⟩, h3, h4⟩)
        have hr' : res = ((items ++ [(⟨N, .slice none 0 0, b'⟩ : VItem)]).map (fun (it : VItem) => (it.N, it.b)) ++ (runS l (ops.drop (j + 1)) (k + m)).1, (runS l (ops.drop (j + 1)) (k + m)).2) := by
          rw [hr.out, HD.out, hp]; simp
        have HR := hide hr'
        have hcv : (wr.alloc (.cells #[.int .i64 kd, .int .i64 sz] 121)).cell? ⟨bv, 0, none⟩ = some vv := (World.cell?_alloc_lt wr _ ⟨bv, 0, none⟩ hbvr).trans hvv
        have HI := hide hI
        have HVO : Hid (some wr.heap.size ≠ vv.ownBlock) := hide (fun e => by have := (hI.own.row.lt _ e.symm).2; omega)
        have HO2 := hide (two_cells wr (.int .i64 kd) (.int .i64 sz) 121)
        have hgne : g ≠ bv := by omega
        have hbase : w.heap.size ≤ wr.heap.size := hI.fr.size
        clear hp HPC hr' hr HD hI hvv
        go_wp2
        clear hk2 hs2
        go_region_law (first
            | (refine step_append_lies _ (by rfl) _ _ _ (by rfl) w.heap.size 120 i0 _ 2 32 Tryz.underlying76 hi0 hz0 hz1 hz2 rfl (by omega) vv items.length (itemCells items) (by rfl) (HB4.out w2).2.1.row ⟨w2.heap.size, 0, none⟩ 1 1 [.int .u64 (N : Int), .slice A3 b'.length c3] (by rfl) (by rfl) (World.news_of_block (cs := #[.int .u64 (N : Int), .slice A3 b'.length c3]) (t := 120) (fr := (0, 0)) (heap_alloc_new w2 _)) (by simp [Value.oneCell']) (by omega) (by unfold maxLen; omega) (by omega) (by have := hg2.size; simp at this; simp; omega) (w2.heap.size + 1) (by simp) ?_; intro gg cap w4 hown4 hgrow4 hat4 hlt4; have hs0' := one_cell ((HB4.out w4).2.2 hgrow4); have hf0' := frozen_of_row w4 bv 0 _ _ ((HB4.out w4).2.2 hgrow4))
            | (go_simp; go_at_call 100; refine (HPS.out 1).mono ?_; rintro e w2 ⟨⟨A3, c3, rfl, hown2⟩, hR2, hg2⟩; have hs0 := one_cell (HI.out.box4 (w4 := w2) (o' := .cells #[.int .u64 (N : Int), .slice A3 b'.length c3] 120) hgne hg2).1; have hs0a := fun o => (World.cell?_alloc_lt w2 o ⟨bv, 0, none⟩ (World.block_lt_of_cell? w2 _ hs0)).trans hs0; have HB4 := hide (fun w4 => HI.out.box4 (w4 := w4) (o' := .cells #[.int .u64 (N : Int), .slice A3 b'.length c3] 120) hgne hg2)))
        all_goals have hI' := HI.out.step (N := N) hgne hg2 hR2 hown2 hown4 hgrow4
        all_goals have HI' := hide hI'
        all_goals clear hI' hs0 hs0a hs0' hf0' hown4 hgrow4 hat4 hlt4 HB4 hg2 hR2 hown2 hcv
        all_goals go_wp2
        all_goals go_roundw
        all_goals try (case rel => exact ⟨j + 1, k + m, _, items ++ [(⟨N, .slice A3 b'.length c3, b'⟩ : VItem)], by omega, by go_num, hkm, by simp; omega, HI'.out, hide (by rw [HR.out]; simp)⟩)
        all_goals try (case measure => simp [intOf]; omega)
    · have hfin : RunCPost w g bv A l.length c res (.returned (.tuple #[])) wr := by
        have e : runS l (ops.drop j) k = ([], k, 0) := by rw [List.drop_of_length_le (by omega)]; rfl
        refine ⟨vv, items, ?_, ?_, .inl ⟨?_, rfl⟩⟩
        · rw [hr.out, e]; exact hI
        · rw [hr.out, e]; simp
        · rw [hr.out, e]
      have HF := hide hfin
      clear hfin hr
      go_wp2
      go_end0
      exact HF.out
end Go.Proofs.YtihakjcccbionaaGreatDoor

end
section
/-
  The walk of the deferred closure that catches a piece's panic, and of attempt, which begins: the error stays.
-/
namespace Go.Proofs.YtihakjcccbionaaGreatDoor
open Go.RowKit
set_option maxRecDepth 100000

theorem assert_errno (er : Int) : ∀ W, (Instr.typeAssert (.iface 31 (.int .i64 er)) 20 31 false).run Tryz.prog W = .ok (.int .i64 er) W := fun _ => by kernel_rfl

set_option maxHeartbeats 1000000 in
theorem catch_panicking (w : World) (B g : Nat) (A : Option Addr) (n c k : Nat) (er0 er : Int) (older : List PanicEntry) (hB : w.heap[B]? = some (.cells #[.pointer (some ⟨g, 0, none⟩)] 110 (0, 0))) (h : Rd w g A n c k er0) :
    CallsD Tryz.prog 97 #[.pointer (some ⟨B, 0, none⟩)] (.panicking ({ v := .iface 31 (.int .i64 er), recovered := false } :: older)) w fun e u' w' =>
      e = .returned (.tuple #[]) ∧ u' = .panicking ({ v := .iface 31 (.int .i64 er), recovered := true } :: older) ∧ w' = w.drew.setCell ⟨g, 2, none⟩ (.int .i64 er) := by
  have hc := one_cell hB
  have h2 := h.c2
  have hf2 := h.fr 2
  have hta := assert_errno er
  refine callsD_of_wpS Tryz.func97 rfl fun c₀ cs hu => ?_
  apply wpS_seq
  apply wpS_region
  simp [wpOpsS, go_sem, recoverD, hu, Tryz.ntmps97, Exit.thenS]
  have e1 : (#[Value.pointer (some { block := B, off := 0 })] ++ ((Array.replicate 9 undef).setIfInBounds 1 (Value.iface 31 (Value.int IntKind.i64 er))).setIfInBounds 0 (Value.iface 31 (Value.int IntKind.i64 er))) =
      #[Value.pointer (some { block := B, off := 0 }), Value.iface 31 (Value.int IntKind.i64 er), Value.iface 31 (Value.int IntKind.i64 er), undef, undef, undef, undef, undef, undef, undef] := rfl
  rw [e1]
  refine wpS_of_wp ?_
  go_wp2
  go_region
  exact ⟨rfl, _, rfl, .tuple #[], by simp [results, Tryz.results97], rfl, rfl, rfl⟩

theorem catch_idle (p : Addr) (w : World) :
    CallsD Tryz.prog 97 #[.pointer (some p)] .returning w fun e u' w' => e = .returned (.tuple #[]) ∧ u' = .returning ∧ w' = w := by
  refine callsD_of_wpS Tryz.func97 rfl fun c₀ cs hu => ?_
  apply wpS_seq
  apply wpS_region
  simp [wpOpsS, go_sem, recoverD, hu, Tryz.ntmps97, Exit.thenS]
  have e1 : (#[Value.pointer (some p)] ++ ((Array.replicate 9 undef).setIfInBounds 1 Value.nilIface).setIfInBounds 0 Value.nilIface) =
      #[Value.pointer (some p), Value.nilIface, Value.nilIface, undef, undef, undef, undef, undef, undef, undef] := rfl
  rw [e1]
  refine wpS_of_wp ?_
  go_wp2
  cases c₀
  simp_all [bodyPostS, results, Tryz.results97]

/-- what a call of attempt leaves: S, and the error that stays. -/
def Stays (g : Nat) (S : Int → World → Prop) (w' : World) : Prop :=
  S 0 w' ∨ ∃ er w1, er ≠ 0 ∧ S er w1 ∧ w' = w1.drew.setCell ⟨g, 2, none⟩ (.int .i64 er)

set_option maxHeartbeats 1000000 in
theorem attempt_any (w : World) (g : Nat) (A : Option Addr) (n c k : Nat) (F : FuncId) (cap : Array Value) (S : Int → World → Prop) (h : Rd w g A n c k 0) (hcf : ∀ W, (callFunc F cap).run Tryz.prog W = .ok (.enter F cap) W)
    (hF : Calls Tryz.prog F cap (w.alloc (.cells #[.pointer (some ⟨g, 0, none⟩)] 110)) fun e w' => (e = .returned (.tuple #[]) ∧ S 0 w') ∨ ∃ er, er ≠ 0 ∧ e = giveUp er ∧ S er w')
    (hS : ∀ er w', S er w' → w'.heap[w.heap.size]? = some (.cells #[.pointer (some ⟨g, 0, none⟩)] 110 (0, 0)) ∧ ∃ k', Rd w' g A n c k' 0) :
    Calls Tryz.prog 84 #[.pointer (some ⟨g, 0, none⟩), .func (Fn.func F) #[] cap] w fun e w' => e = .returned (.tuple #[]) ∧ Stays g S w' := by
  have hmf : ∀ (fn : Fn) (first cap : Array Value) (w : World), (Instr.makeFunc fn first cap).run Tryz.prog w = .ok (.func fn first cap) w := fun _ _ _ _ => rfl
  have herr := err_any (w.alloc (.cells #[.pointer (some ⟨g, 0, none⟩)] 110)) g A n c k 0 (h.alloc _)
  have HF := hide hF
  have HS := hide hS
  clear hF hS
  go_enter_defers Tryz.func84, Tryz.ntmps84
  go_wp2_with fail
  refine herr.mono ?_
  rintro e w1 ⟨rfl, rfl⟩
  go_wp2_with fail
  refine HF.out.mono ?_
  rintro e w1 (⟨rfl, hs⟩ | ⟨er, hne, rfl, hs⟩)
  · have HSS := hide hs
    clear hs
    go_wp2
    refine leaves_cons (f := 97) (args := #[.pointer (some ⟨w.heap.size, 0, none⟩)]) (by simp) (by simp [go_sem]) ?_
    refine (catch_idle ⟨w.heap.size, 0, none⟩ _).mono ?_
    rintro e u' w'' ⟨rfl, rfl, rfl⟩
    refine ⟨.tuple #[], by simp [results, Tryz.results84], rfl, .inl HSS.out⟩
  · obtain ⟨hbox, k', hrd⟩ := HS.out er w1 hs
    have HSS := hide hs
    have HB := hide hbox
    clear hs hbox
    go_wp2
    refine leaves_cons (f := 97) (args := #[.pointer (some ⟨w.heap.size, 0, none⟩)]) (by simp) (by simp [go_sem]) ?_
    refine (catch_panicking _ w.heap.size g A n c k' 0 er [] HB.out hrd).mono ?_
    rintro e u' w'' ⟨rfl, rfl, rfl⟩
    refine ⟨.tuple #[], by simp [results, Tryz.results84], rfl, .inr ⟨er, _, hne, HSS.out, rfl⟩⟩
end Go.Proofs.YtihakjcccbionaaGreatDoor

end
section
/-
  The walk of Run: what each piece was, up to the first error, how many bytes were read, that error.
-/
namespace Go.Proofs.YtihakjcccbionaaGreatDoor
open Go.RowKit
set_option maxRecDepth 100000

theorem Ops.keep {w w' : World} {B B' : Nat} {A : Option Addr} {l : List (Int × Int)} (h : Ops w B A l) (hB : B ≤ B') (hk : ∀ p : Addr, p.block < B → w'.cell? p = w.cell? p) : Ops w' B' A l := fun hl => by
  obtain ⟨b, off, e, hb, hc⟩ := h hl
  exact ⟨b, off, e, by omega, fun i hi => ⟨(hk _ hb).trans (hc i hi).1, (hk _ hb).trans (hc i hi).2⟩⟩
theorem OwnV.base {w : World} {B B' : Nat} {vv : Value} {items : List VItem} (h : OwnV w B vv items) (hB : B' ≤ B) : OwnV w B' vv items := by
  refine ⟨⟨h.row.1, ?_⟩, fun it hit => (h.each it hit).base hB⟩
  rcases h.row.2 with e | ⟨g, cap, cur, e, hb, rest⟩
  · exact .inl e
  · exact .inr ⟨g, cap, cur, e, Nat.le_trans hB hb, rest⟩
theorem OwnV.drewN {w : World} {B : Nat} {vv : Value} {items : List VItem} (h : OwnV w B vv items) (k : Nat) : OwnV (w.drewN k) B vv items := ⟨h.row, h.each⟩

/-- three variables of a call's own, and a fourth one. -/
theorem four_vars (w : World) (a b : Value) (ds : Array Value) (s t u : TypeId) : ∃ W, W = ((w.alloc (.cells #[a] s)).alloc (.cells ds t)).alloc (.cells #[b] u) ∧ Below w.heap.size w W ∧ W.heap.size = w.heap.size + 3 ∧
    W.heap[w.heap.size]? = some (.cells #[a] s (0, 0)) ∧ W.heap[w.heap.size + 1]? = some (.cells ds t (0, 0)) ∧ W.heap[w.heap.size + 2]? = some (.cells #[b] u (0, 0)) := by
  have h0 := heap_alloc_new w (.cells #[a] s)
  have h1 := heap_alloc_new (w.alloc (.cells #[a] s)) (.cells ds t)
  have h2 := heap_alloc_new ((w.alloc (.cells #[a] s)).alloc (.cells ds t)) (.cells #[b] u)
  refine ⟨_, rfl, (((Below.refl _ _).alloc (Nat.le_refl _) _).alloc (by simp) _).alloc (by simp; omega) _, by simp, ?_, ?_, by simpa using h2⟩
  · rw [Below.heap_alloc _ _ _ (by simp; omega), Below.heap_alloc _ _ _ (by simp)]; exact h0
  · rw [Below.heap_alloc _ _ _ (by simp)]; simpa using h1

/-- what Run's closure leaves, in the words of attempt. -/
def RunS (W4 : World) (g bv : Nat) (A : Option Addr) (n c : Nat) (res : List (Nat × List UInt8) × Nat × Nat) (er : Int) (w' : World) : Prop :=
  er = (res.2.2 : Int) ∧ ∃ vv items, RunInv W4 w' g bv A n c res.2.1 vv items ∧ items.map (fun it => (it.N, it.b)) = res.1

theorem run_stays {W4 w' : World} {g bv : Nat} {A : Option Addr} {n c : Nat} {res : List (Nat × List UInt8) × Nat × Nat} (h : Stays g (RunS W4 g bv A n c res) w') (hgv : g ≠ bv) :
    ∃ vv items, Rd w' g A n c res.2.1 (res.2.2 : Int) ∧ w'.heap[bv]? = some (.cells #[vv] 76 (0, 0)) ∧ OwnV w' W4.heap.size vv items ∧ Fr2 W4 w' g bv ∧ items.map (fun it => (it.N, it.b)) = res.1 := by
  rcases h with ⟨h0, vv, items, hI, hm⟩ | ⟨er, w1, _, ⟨he, vv, items, hI, hm⟩, rfl⟩
  · exact ⟨vv, items, by rw [← h0]; exact hI.rd, hI.box, hI.own, hI.fr, hm⟩
  · subst he
    have hI' := hI.below (w1 := w1.drew) (Below.refl _ _).drew
    have hs := grown_set w1.drew g 2 (.int .i64 (res.2.2 : Int))
    refine ⟨vv, items, hI'.rd.setE _, (Below.heap_setCell _ ⟨g, 2, none⟩ _ bv (by show bv ≠ g; omega)).trans hI'.box, hI'.own.kept hs (own_ne hI'.own.row hI'.rd.blk (by decide)) (fun it hit => own_ne (hI'.own.each it hit) hI'.rd.blk (by decide)), hI'.fr.grown hs (fun i e => by cases e; exact .inr (.inl rfl)), hm⟩

set_option maxHeartbeats 2000000 in
theorem run_any (w : World) (A Al : Option Addr) (l : List UInt8) (c cl : Nat) (ops : List (Int × Int)) (hl : l.length ≤ c) (hn : l.length ≤ 140737488420864) (hb : Byt w w.heap.size A l)
    (hops : Ops w w.heap.size Al ops) (hno : ops.length ≤ 1099511627776) :
    Calls Tryz.prog 90 #[.slice A l.length c, .slice Al ops.length cl] w fun e w' => ∃ vv items, e = .returned (.tuple #[vv, .int .i64 ((runS l ops 0).2.1 : Int), .int .i64 ((runS l ops 0).2.2 : Int)]) ∧
      OwnV w' w.heap.size vv items ∧ items.map (fun it => (it.N, it.b)) = (runS l ops 0).1 ∧ Below w.heap.size w w' := by
  have hmf : ∀ (fn : Fn) (first cap : Array Value) (w : World), (Instr.makeFunc fn first cap).run Tryz.prog w = .ok (.func fn first cap) w := fun _ _ _ _ => rfl
  obtain ⟨W, hW, hbW, hzW, v0, v1, v2⟩ := four_vars w (.slice Al ops.length cl) (.slice none 0 0) #[.slice A l.length c, .int .i64 0, .int .i64 0] 77 141 76
  obtain ⟨res, hres⟩ : ∃ res, res = runS l ops 0 := ⟨_, rfl⟩
  have hRW : Rd W (w.heap.size + 1) A l.length c 0 0 := ⟨v1⟩
  have hcell : ∀ p : Addr, p.block < w.heap.size → (W.alloc (.cells #[.pointer (some ⟨w.heap.size + 1, 0, none⟩)] 110)).cell? p = w.cell? p := fun p hp => (World.cell?_alloc_lt W _ p (by omega)).trans (hbW.cell hp)
  have hF := runC_any (W.alloc (.cells #[.pointer (some ⟨w.heap.size + 1, 0, none⟩)] 110)) (w.heap.size + 1) w.heap.size (w.heap.size + 1 + 1) A Al l c cl 0 ops (hRW.alloc _) (Nat.zero_le _) hl hn ((hb.keep hcell).more (by omega))
    (hops.keep (by omega) hcell) hno ((Below.heap_alloc W _ _ (by omega)).trans v0) ((Below.heap_alloc W _ _ (by omega)).trans v2) (by omega)
  rw [← hres] at hF ⊢
  have hcall := attempt_any W (w.heap.size + 1) A l.length c 0 99 #[.pointer (some ⟨w.heap.size, 0, none⟩), .pointer (some ⟨w.heap.size + 1 + 1, 0, none⟩), .pointer (some ⟨w.heap.size + 1, 0, none⟩)]
    (RunS (W.alloc (.cells #[.pointer (some ⟨w.heap.size + 1, 0, none⟩)] 110)) (w.heap.size + 1) (w.heap.size + 1 + 1) A l.length c res) hRW (fun W => by simp [go_sem])
    (hF.mono fun e w' ⟨vv, items, hI, hm, hc⟩ => by
      rcases hc with ⟨h0, rfl⟩ | ⟨h0, rfl⟩
      · exact .inl ⟨rfl, by rw [h0]; rfl, vv, items, hI, hm⟩
      · exact .inr ⟨(res.2.2 : Int), by omega, rfl, rfl, vv, items, hI, hm⟩)
    (fun er w' ⟨he, vv, items, hI, hm⟩ => ⟨(hI.fr.block _ (by simp) (by omega) (by omega)).trans (heap_alloc_new W _), _, hI.rd⟩)
  have HC := hide hcall
  have HZ := hide hzW
  clear hF hcall hres hcell v0 v1 v2 hzW hRW
  go_enter Tryz.func90, Tryz.ntmps90
  go_wp2_with fail
  rw [← hW]
  clear hW
  refine HC.out.mono ?_
  rintro e w1 ⟨rfl, hst⟩
  obtain ⟨vv, items, hrd, hbox, hown, hfr, hm⟩ := run_stays hst (by omega)
  have c1 := hrd.c1
  have c2 := hrd.c2
  have cv := one_cell hbox
  have hbel : ∀ n, Below w.heap.size w (w1.drewN n) := fun n => by
    have hz := HZ.out
    refine hbW.trans ⟨hfr.os, hfr.tape, hfr.output, ?_, fun i hi => ?_⟩
    · have := hfr.size; simp at this; simp; omega
    · exact (hfr.block i (by simp; omega) (by omega) (by omega)).trans (Below.heap_alloc W _ i (by omega))
  have HB := hide hbel
  have HO := hide (hown.base (B' := w.heap.size) (by have := HZ.out; simp; omega))
  have HM := hide hm
  clear hst hbel hown hm hbox hrd hfr
  go_wp2
  go_quiet (fail)
  go_wp2
  go_ret3
  exact ⟨vv, items, rfl, HO.out.drewN _, HM.out, HB.out _⟩
end Go.Proofs.YtihakjcccbionaaGreatDoor

end
section
/-
  Words about what Run answers and about pieces that a literal says.
-/
namespace Go.Proofs.YtihakjcccbionaaGreatDoor
open Go.RowKit

theorem OwnV.shape {w : World} {base : Nat} {vv : Value} {items : List VItem} (h : OwnV w base vv items) :
    ∃ A c, vv = .slice A items.length c ∧ items.length ≤ c ∧ (0 < items.length → ∃ gg, A = some ⟨gg, 0, none⟩ ∧ base ≤ gg ∧ gg < w.heap.size ∧ ∀ j (hj : j < items.length), w.cell? ⟨gg, j * 2, none⟩ = some (.int .u64 (items[j].N : Int)) ∧ w.cell? ⟨gg, j * 2 + 1, none⟩ = some items[j].v) := by
  rcases h.row.2 with ⟨rfl, h0⟩ | ⟨gg, cap, cur, rfl, hb, hg, hn, hm, hsz, ht⟩
  · exact ⟨none, 0, by rw [h0], by omega, fun hp => by omega⟩
  · refine ⟨some ⟨gg, 0, none⟩, cap, rfl, hn, fun _ => ⟨gg, rfl, hb, (Array.getElem?_eq_some_iff.1 hg).1, fun j hj => ?_⟩⟩
    have hc : ∀ i, i < items.length * 2 → w.cell? ⟨gg, i, none⟩ = (itemCells items)[i]? := fun i hi => World.ownsRow.cellAt (g := gg) (cap := cap) h.row i hi
    have hget : ∀ (its : List VItem) (j : Nat) (hj : j < its.length), (itemCells its)[j * 2]? = some (.int .u64 (its[j].N : Int)) ∧ (itemCells its)[j * 2 + 1]? = some its[j].v := by
      intro its
      induction its with
      | nil => intro j hj; simp at hj
      | cons x t ih =>
        intro j hj
        rcases j with _ | j
        · exact ⟨rfl, rfl⟩
        · have := ih j (by simp at hj; omega)
          rw [itemCells, List.flatMap_cons, ← itemCells]
          rw [show (j + 1) * 2 = j * 2 + 2 from by omega, show j * 2 + 2 + 1 = j * 2 + 1 + 2 from by omega]
          simpa using this
    obtain ⟨h1, h2⟩ := hget items j hj
    exact ⟨(hc _ (by omega)).trans h1, (hc _ (by omega)).trans h2⟩

theorem Ops.lit (w : World) (l : List (Int × Int)) (cs : Array Value) (t : TypeId) (fr : Nat × Nat) (hcs : cs = (l.flatMap fun o => [Value.int .i64 o.1, Value.int .i64 o.2]).toArray) : Ops (w.alloc (.cells cs t fr)) (w.heap.size + 1) (some ⟨w.heap.size, 0, none⟩) l := fun _ =>
  ⟨w.heap.size, 0, rfl, Nat.lt_succ_self _, fun i hi => by
    subst hcs
    have hget : ∀ (its : List (Int × Int)) (j : Nat) (hj : j < its.length), (its.flatMap fun o => [Value.int .i64 o.1, Value.int .i64 o.2])[j * 2]? = some (.int .i64 its[j].1) ∧ (its.flatMap fun o => [Value.int .i64 o.1, Value.int .i64 o.2])[j * 2 + 1]? = some (.int .i64 its[j].2) := by
      intro its
      induction its with
      | nil => intro j hj; simp at hj
      | cons x t ih =>
        intro j hj
        rcases j with _ | j
        · exact ⟨rfl, rfl⟩
        · have := ih j (by simp at hj; omega)
          rw [List.flatMap_cons, show (j + 1) * 2 = j * 2 + 2 from by omega, show j * 2 + 2 + 1 = j * 2 + 1 + 2 from by omega]
          simpa using this
    obtain ⟨h1, h2⟩ := hget l i hi
    have hb := heap_alloc_new w (.cells (l.flatMap fun o => [Value.int .i64 o.1, Value.int .i64 o.2]).toArray t fr)
    rw [cell_of_row _ w.heap.size (0 + i * 2) _ t fr hb, cell_of_row _ w.heap.size (0 + i * 2 + 1) _ t fr hb]
    simp only [Nat.zero_add, List.getElem?_toArray]
    exact ⟨h1, h2⟩⟩

theorem Ops.more {w w' : World} {B B' : Nat} {A : Option Addr} {l : List (Int × Int)} (h : Ops w B A l) (hB : B ≤ B') (hb : Below B w w') : Ops w' B' A l := h.keep hB (fun _ hp => hb.cell hp)

end Go.Proofs.YtihakjcccbionaaGreatDoor

end
