/-
  The walks of the Reader of package cursor: Err, rightSize, ahead, and the pieces that give up by a panic with their error.
-/
import Derived.Test.YtpbgbfmpjgkllaaLent
import Derived.WalkLawsBesides
import Derived.Deep.DeepAppendWide
namespace Go.Proofs.Ytpbgbfmpjgkllaa
open Go.RowKit
set_option maxRecDepth 100000

/-- the panic of a piece that gives up by error number er. -/
abbrev giveUp (er : Int) : Ending := .panicked [{ v := .iface 34 (.int .i64 er), recovered := false }]

/-- block g is a Reader of the slice A, n, c, that stands at 'k', with the error er. -/
structure Rd (w : World) (g : Nat) (A : Option Addr) (n c k : Nat) (er : Int) : Prop where
  blk : w.heap[g]? = some (.cells #[.slice A n c, .int .i64 (k : Int), .int .i64 er] 119 (0, 0))

set_option maxHeartbeats 400000 in
theorem rightSize_any (s : Int) (w : World) : Calls Try.prog 72 #[.int .i64 s] w fun e w' => e = .returned (.bool (decide (1 ≤ s) && decide (s ≤ 8))) ∧ w = w' := by
  by_cases h1 : 1 ≤ s
  · go_enter Try.func72, Try.ntmps72
    go_wp2
    go_ret
    exact ⟨by simp [h1], rfl⟩
  · have h1' : ¬ (s ≥ 1) := h1
    go_enter Try.func72, Try.ntmps72
    go_wp2
    go_ret
    exact ⟨by simp; omega, rfl⟩

section
variable {w w' : World} {g : Nat} {A : Option Addr} {n c k : Nat} {er : Int}
theorem Rd.lt (h : Rd w g A n c k er) : g < w.heap.size := (Array.getElem?_eq_some_iff.1 h.blk).1
theorem Rd.cell (h : Rd w g A n c k er) (i : Nat) : w.cell? ⟨g, i, none⟩ = #[Value.slice A n c, .int .i64 (k : Int), .int .i64 er][i]? := cell_of_row w g i _ _ (0, 0) h.blk
theorem Rd.c0 (h : Rd w g A n c k er) : w.cell? ⟨g, 0, none⟩ = some (.slice A n c) := h.cell 0
theorem Rd.c1 (h : Rd w g A n c k er) : w.cell? ⟨g, 1, none⟩ = some (.int .i64 (k : Int)) := h.cell 1
theorem Rd.c2 (h : Rd w g A n c k er) : w.cell? ⟨g, 2, none⟩ = some (.int .i64 er) := h.cell 2
theorem Rd.fr (h : Rd w g A n c k er) (i : Nat) : w.frozen? ⟨g, i, none⟩ = false := frozen_of_row w g i _ _ h.blk
theorem Rd.kept (h : Rd w g A n c k er) (hb : w'.heap[g]? = w.heap[g]?) : Rd w' g A n c k er := ⟨hb.trans h.blk⟩
theorem Rd.drewN (h : Rd w g A n c k er) (m : Nat) : Rd (w.drewN m) g A n c k er := ⟨h.blk⟩
theorem Rd.alloc (h : Rd w g A n c k er) (o : Obj) : Rd (w.alloc o) g A n c k er := h.kept (Below.heap_alloc w o g h.lt)
theorem Rd.grown {row : Option Nat} (h : Rd w g A n c k er) (hg : w.grownBy w' row) (hr : row ≠ some g) : Rd w' g A n c k er := h.kept (hg.block g h.lt (fun e => hr e.symm))
theorem Rd.setK (h : Rd w g A n c k er) (k' : Nat) : Rd (w.setCell ⟨g, 1, none⟩ (.int .i64 (k' : Int))) g A n c k' er :=
  ⟨heap_setCell_same w g 1 _ _ _ h.blk⟩
theorem Rd.setE (h : Rd w g A n c k er) (er' : Int) : Rd (w.setCell ⟨g, 2, none⟩ (.int .i64 er')) g A n c k er' :=
  ⟨heap_setCell_same w g 2 _ _ _ h.blk⟩
end

theorem Byt.sub {w : World} {B : Nat} {A : Option Addr} {l : List UInt8} (hb : Byt w B A l) (k m c : Nat) (hl : l.length ≤ c) : Byt w B (if c = k then A else Option.map (fun x => x.add k) A) ((l.drop k).take m) := fun hpos => by
  simp only [List.length_take, List.length_drop] at hpos
  obtain ⟨b, off, e, hlt, hc⟩ := hb (by omega)
  rw [if_neg (by omega), e]
  refine ⟨b, off + k, by rw [Option.map_some, add_none], hlt, fun i hi => ?_⟩
  simp only [List.length_take, List.length_drop] at hi
  rw [List.getElem_take, List.getElem_drop, Nat.add_assoc]
  exact hc (k + i) (by omega)

set_option maxHeartbeats 400000 in
theorem err_any (w : World) (g : Nat) (A : Option Addr) (n c k : Nat) (er : Int) (h : Rd w g A n c k er) :
    Calls Try.prog 65 #[.pointer (some ⟨g, 0, none⟩)] w fun e w' => e = .returned (.int .i64 er) ∧ w = w' := by
  have h2 := h.c2
  go_enter Try.func65, Try.ntmps65
  go_wp2
  go_ret
  exact ⟨rfl, rfl⟩

set_option maxHeartbeats 1000000 in
theorem ahead_neg (w : World) (g : Nat) (m : Int) (hm : m < 0) :
    Calls Try.prog 73 #[.pointer (some ⟨g, 0, none⟩), .int .i64 m] w fun e w' => e = giveUp 1 ∧ w = w' := by
  go_enter Try.func73, Try.ntmps73
  go_wp2
  exact ⟨rfl, rfl, rfl⟩

set_option maxHeartbeats 1000000 in
theorem ahead_short (w : World) (g : Nat) (A : Option Addr) (n c k : Nat) (er : Int) (h : Rd w g A n c k er) (m : Int) (hm : 0 ≤ m) (hn : n ≤ 140737488420864) (hk : k ≤ n) (hs : (n : Int) - k < m) :
    Calls Try.prog 73 #[.pointer (some ⟨g, 0, none⟩), .int .i64 m] w fun e w' => e = giveUp 10 ∧ ∃ q, w' = w.drewN q := by
  have h0 := h.c0
  have h1 := h.c1
  go_enter Try.func73, Try.ntmps73
  go_wp2
  go_quiet (fail)
  go_wp2
  exact ⟨rfl, rfl, nq, rfl⟩

set_option maxHeartbeats 1000000 in
theorem ahead_ok (w : World) (g B : Nat) (A : Option Addr) (l : List UInt8) (c k : Nat) (er : Int) (h : Rd w g A l.length c k er) (m : Nat) (hl : l.length ≤ c) (hn : l.length ≤ 140737488420864) (hk : k + m ≤ l.length) (hb : Byt w B A l) :
    Calls Try.prog 73 #[.pointer (some ⟨g, 0, none⟩), .int .i64 (m : Int)] w fun e w' => (∃ A' c', e = .returned (.slice A' m c') ∧ m ≤ c' ∧ Byt w B A' ((l.drop k).take m)) ∧ ∃ q, w' = w.drewN q := by
  have h0 := h.c0
  have h1 := h.c1
  go_enter Try.func73, Try.ntmps73
  go_wp2
  go_quiet (fail)
  go_wp2
  go_quiet (fail)
  rw [show k + m - k = m from by omega]
  have hS := hb.sub k m c hl
  generalize (if c = k then A else Option.map (fun x => x.add k) A) = A' at hS ⊢
  go_wp2
  go_ret
  exact ⟨⟨_, _, rfl, by omega, hS⟩, _, World.drewN_drewN _ _ _⟩

theorem Below.row {w w' : World} (h : Below w.heap.size w w') (row : Option Nat) : w.grownBy w' row := ⟨h.os, h.tape, h.output, h.size, fun k hk _ => h.block k hk⟩

theorem run_app_bytes_wide (w : World) (base ty : Nat) (v : Value) (l0 l : List UInt8) (B c : Nat) (A : Option Addr) (hown : OwnB w base v l0) (hb : Byt w B A l) (hnil : A = none → c = 0) (hlen : l0.length + l.length ≤ 200000000000000) (hbase : base ≤ w.heap.size) :
    ∃ v' w', (Builtin.append_ #[53, 53] ty #[v, .slice A l.length c]).run Try.prog w = .ok v' w' ∧ OwnB w' base v' (l0 ++ l) ∧ w.grownBy w' v.ownBlock := by
  obtain ⟨i0, hi, hz0, hz1, hz2⟩ := info_parts info_u8
  rcases A with _ | ad
  · have h0 : l = [] := by
      rcases l with _ | ⟨x, l⟩
      · rfl
      · obtain ⟨b, off, e, _⟩ := hb (by simp)
        cases e
    subst h0
    obtain rfl := hnil rfl
    exact ⟨v, w, run_append_owned_none (P := Try.prog) w base 53 ty 5 i0 1 Try.underlying53 hi v l0.length (l0.map byteV) hown, by simpa using hown, World.grownBy.refl w _⟩
  · have hnew : ∀ j u, (l.map byteV)[j]? = some u → w.cell? (ad.add j) = some u := by
      intro j u hj
      obtain ⟨hjl, hju⟩ := List.getElem?_eq_some_iff.1 hj
      have hjl' : j < l.length := by simpa using hjl
      obtain ⟨b, off, e, _, hcell⟩ := hb (by omega)
      cases e
      rw [add_none, hcell j hjl', ← hju]
      simp [byteV]
    obtain ⟨v', w', hr, h2, h3, _⟩ := run_append_own_wide (P := Try.prog) w base 53 ty 5 i0 _ 1 1 Try.underlying53 hi hz0 hz1 hz2 rfl (by omega) v l0.length (l0.map byteV) hown ad l.length c (l.map byteV) (by simp) hnew (byteV_one l) (by unfold maxLen; omega) (by omega) hbase
    refine ⟨v', w', hr, ?_, h3⟩
    unfold OwnB
    rw [List.length_append, List.map_append]
    exact h2
theorem wpList_app_bytes_wide {w : World} {ops : Array Oper} {rest : List Oper} {o : Oper} {a : Act} {Q : Exit → Act → World → Prop} (hgd : o.guard = none) (s x : Operand)
    (ho : o.op = .call { callee := .builtin .append, args := #[s, x], argTypes := #[53, 53] }) (base : Nat) (v : Value) (l0 l : List UInt8) (B c : Nat) (A : Option Addr)
    (hs : a.eval s = v) (hx : a.eval x = .slice A l.length c) (hown : OwnB w base v l0) (hb : Byt w B A l) (hnil : A = none → c = 0) (hlen : l0.length + l.length ≤ 200000000000000) (hbase : base ≤ w.heap.size)
    (h : ∀ v' w', OwnB w' base v' (l0 ++ l) → w.grownBy w' v.ownBlock → wpList Try.prog ops Q rest (a.put o.dst v') w') : wpList Try.prog ops Q (o :: rest) a w := by
  obtain ⟨v', w', hr, h2, h3⟩ := run_app_bytes_wide w base o.type v l0 l B c A hown hb hnil hlen hbase
  refine wpList_plain hgd fun K hK => ?_
  unfold Oper.wp execOp
  simp only [ho, resolve, invoke, builtin, Sem.run_bind, Sem.run_pure, Result.andThen_ok, List.map_toArray, List.map_cons, List.map_nil, hs, hx, hr]
  exact hK _ _ (h v' w' h2 h3)

set_option maxHeartbeats 1000000 in
theorem clone_any (w : World) (B : Nat) (A : Option Addr) (l : List UInt8) (c : Nat) (hn : l.length ≤ 140737488420864) (hb : Byt w B A l) (hB : B ≤ w.heap.size) :
    Calls Try.prog 61 #[.slice A l.length c] w fun e w' => ∃ v, e = .returned v ∧ OwnB w' w.heap.size v l ∧ Below w.heap.size w w' := by
  rcases A with _ | a
  · have h0 : l = [] := by
      rcases l with _ | ⟨x, l⟩
      · rfl
      · obtain ⟨b, off, e, _⟩ := hb (by simp)
        cases e
    subst h0
    have hnil : ∀ W, (binOp .eql 53 (.slice none 0 c) (.slice none 0 0)).run Try.prog W = .ok (.bool true) W := fun W => Lib.run_eql_slice_nil W 53 5 none 0 c 0 0 Try.underlying53
    go_enter Try.func61, Try.ntmps61
    go_wp2
    go_ret
    exact ⟨_, rfl, OwnB.nil _ _, Below.refl _ _⟩
  · have hsome : ∀ W, (binOp .eql 53 (.slice (some a) l.length c) (.slice none 0 0)).run Try.prog W = .ok (.bool false) W := fun W => Lib.run_eql_slice_nil W 53 5 (some a) l.length c 0 0 Try.underlying53
    have hown0 : OwnB (w.alloc (.cells #[] 5)) w.heap.size (.slice (some ⟨w.heap.size, 0, none⟩) 0 0) [] := World.ownsRow_lit w #[] 0 (Nat.le_refl _) (Nat.zero_le _) rfl
    have hb0 : Below w.heap.size w (w.alloc (.cells #[] 5)) := (Below.refl _ _).alloc (Nat.le_refl _) _
    have hby : Byt (w.alloc (.cells #[] 5)) B (some a) l := (hb.below (hb0.mono hB))
    go_enter Try.func61, Try.ntmps61
    go_wp2_with (at_builtin; refine wpList_app_bytes_wide rfl (.tmp 5) (.tmp 6) rfl w.heap.size (.slice (some ⟨w.heap.size, 0, none⟩) 0 0) [] l B c (some a) rfl rfl (by exact hown0) (by exact hby) (fun e => by cases e) (by simp; omega) (by simp) ?_)
    intro v1 w1 hown1 hgr1
    have hb1 : Below w.heap.size w w1 := hb0.grown hgr1 (by simp) (fun k hk => by simp [Value.ownBlock] at hk; omega)
    go_wp2
    go_ret
    exact ⟨_, rfl, hown1, hb1⟩
end Go.Proofs.Ytpbgbfmpjgkllaa
