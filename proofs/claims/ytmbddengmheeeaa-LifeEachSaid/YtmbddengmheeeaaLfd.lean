/-
  The walks of life's functions: votes copied, joined; can votes be.
-/
import Derived.Test.YtmbddengmheeeaaLfc
namespace Go.Proofs.Ytmbddengmheeeaa
open Go.RowKit
set_option maxRecDepth 100000
set_option linter.unusedVariables false
set_option linter.unusedSimpArgs false
attribute [local go_sem ↓] exec_span exec_put exec_build heap_alloc_new heap_old
attribute [local go_sem] spanQ_ptr spanC_some heap_of_drew heap_of_drewN rs_vote putAt_ptr putOk_ptr oldOk_some built_vote0

/-- votes of the call's own. -/
def OwnVo (w : World) (base : Nat) (v : Value) (l : List (Int × Bool)) : Prop := w.ownsRow base 46 2 v l.length (voC l)
def VotesP (w : World) (l : List (Int × Bool)) (e : Ending) (w' : World) : Prop := ∃ v, e = .returned v ∧ OwnVo w' w.heap.size v l ∧ Below w.heap.size w w'

/-- of two lists of votes each one that is not ahead. -/
def joinVo (l m : List (Int × Bool)) : List (Int × Bool) := (List.range (max l.length m.length)).map fun i => vjoin (voteAt l i) (voteAt m i)
theorem joinVo_len (l m : List (Int × Bool)) : (joinVo l m).length = max l.length m.length := by simp [joinVo]
theorem joinVo_take {l m : List (Int × Bool)} {k : Nat} (h : k < max l.length m.length) : (joinVo l m).take (k + 1) = (joinVo l m).take k ++ [vjoin (voteAt l k) (voteAt m k)] := by
  rw [List.take_succ_eq_append_getElem (by rw [joinVo_len]; exact h)]
  simp [joinVo]

theorem OwnV2.below {w w' : World} {base n : Nat} {t : TypeId} {v : Value} {xs : List Value} (h : w.ownsRow base t 2 v n xs) (hb : Below w.heap.size w w') : w'.ownsRow base t 2 v n xs := by
  refine World.ownsRow.kept (row := none) h ⟨hb.os, hb.tape, hb.output, hb.size, fun k hk _ => hb.block k hk⟩ ?_
  cases hv : v.ownBlock with
  | none => exact .inl rfl
  | some k => exact .inr (by simp)
theorem two_new (w : World) (X Y : Array Value) (t : TypeId) : ∃ W, (w.alloc (.cells X t)).alloc (.cells Y t) = W ∧ W.heap[w.heap.size]? = some (.cells X t (0, 0)) ∧ W.heap[w.heap.size + 1]? = some (.cells Y t (0, 0)) ∧ W.heap.size = w.heap.size + 2 ∧ Below w.heap.size w W := by
  refine ⟨_, rfl, ?_, ?_, by simp, ((Below.refl _ _).alloc (Nat.le_refl _) _).alloc (by simp) _⟩
  · rw [heap_alloc_old _ _ (by simp)]; exact heap_alloc_new _ _
  · have := heap_alloc_new (w.alloc (.cells X t)) (.cells Y t)
    simpa using this
set_option maxHeartbeats 4000000 in
theorem joinVotes_any (w : World) (B : Nat) (A1 A2 : Option Addr) (c1 c2 : Nat) (l m : List (Int × Bool)) (hb1 : VoS w B A1 l) (hb2 : VoS w B A2 m) (hB : B ≤ w.heap.size) (hl : l.length ≤ 16) (hm : m.length ≤ 16) :
    Calls Try.prog 49 #[.slice A1 l.length c1, .slice A2 m.length c2] w (VotesP w (joinVo l m)) := by
  have K1 := hide (fun W (b : Below w.heap.size w W) i => voteOf_any W B A1 c1 l i (hb1.below b hB) (Nat.le_trans hB b.size) (by omega))
  have K2 := hide (fun W (b : Below w.heap.size w W) i => voteOf_any W B A2 c2 m i (hb2.below b hB) (Nat.le_trans hB b.size) (by omega))
  have hjl := joinVo_len l m
  have HTK := hide (fun k (h : k < max l.length m.length) => joinVo_take (l := l) (m := m) h)
  obtain ⟨J, hJ⟩ : ∃ J, J = joinVo l m := ⟨_, rfl⟩
  rw [← hJ] at hjl HTK ⊢
  obtain ⟨n, hn⟩ : ∃ n, n = l.length := ⟨_, rfl⟩
  obtain ⟨n2, hn2⟩ : ∃ n2, n2 = m.length := ⟨_, rfl⟩
  rw [← hn] at hl hjl K1 HTK ⊢
  rw [← hn2] at hm hjl K2 HTK ⊢
  obtain ⟨M, hM⟩ : ∃ M, M = max n n2 := ⟨_, rfl⟩
  rw [← hM] at hjl HTK
  have hM16 : M ≤ 16 := by omega
  have hmx : max (n : Int) (n2 : Int) = (M : Int) := by omega
  obtain ⟨i0, hi, hz0, hz1, hz2⟩ := info_parts info_vote
  have HJL := hide hjl
  clear hb1 hb2 hn hn2 hM hJ hjl hB
  have HJM : Hid (∀ k, k < M → J.take (k + 1) = J.take k ++ [vjoin (voteAt l k) (voteAt m k)]) := hide HTK.out
  clear HTK
  rcases Nat.lt_or_ge n n2 with hle | hle
  · have hmx2 : (n : Int) < (n2 : Int) := by omega
    obtain rfl : M = n2 := by omega
    clear hle hmx
    go_enter Try.func49, Try.ntmps49
    go_wp2
    go_loopw [5, 14] (fun u v wr => ∃ k : Nat, k ≤ M ∧ v = .int .i64 (k : Int) ∧ Hid (wr.ownsRow w.heap.size 46 2 u k (voC (J.take k))) ∧ Hid (Below w.heap.size w wr)) (fun _ v _ => M - (intOf v).toNat)
    case atStart => exact ⟨0, by omega, rfl, hide (by rw [List.take_zero]; exact World.ownsRow_nil _ _ _ _), hide (Below.refl _ _)⟩
    case round =>
      obtain ⟨k, hk, rfl, hown, hbel⟩ := hrel
      by_cases hlt : k < M
      · have hjt := HJM.out k hlt
        have KA := K1.out wr hbel.out k
        have KB := hide (fun W (b : Below w.heap.size w W) => K2.out W b k)
        have KN := hide (fun W => notAheadV_any W (voteAt l k) (voteAt m k))
        obtain ⟨x, hx⟩ : ∃ x, x = voteAt l k := ⟨_, rfl⟩
        obtain ⟨y, hy⟩ : ∃ y, y = voteAt m k := ⟨_, rfl⟩
        obtain ⟨z, hz⟩ : ∃ z, z = vjoin x y := ⟨_, rfl⟩
        rw [← hx] at KA KN hjt
        rw [← hy] at KB KN hjt
        rw [← hz] at KN hjt
        obtain ⟨xs, xo⟩ := x
        obtain ⟨ys, yo⟩ := y
        obtain ⟨zs, zo⟩ := z
        unfold voV at KA KB KN
        have HT : Hid (voC (J.take (k + 1)) = voC (J.take k) ++ [.int .i64 zs, .bool zo]) := hide (by rw [hjt, voC_snoc])
        have HKA := hide KA
        clear hx hy hz hjt KA
        go_wp2_with fail
        refine HKA.out.mono ?_
        rintro e w1 ⟨rfl, b1⟩
        have B1 := hide (hbel.out.trans (b1.mono hbel.out.size))
        have O1 := hide (OwnV2.below hown.out b1)
        clear b1
        go_wp2_with fail
        refine (KB.out w1 B1.out).mono ?_
        rintro e w2 ⟨rfl, b2⟩
        have B2 := hide (B1.out.trans (b2.mono B1.out.size))
        have O2 := hide (OwnV2.below O1.out b2)
        obtain ⟨W, hW, r1, r2, hz, hbW⟩ := two_new w2 #[.int .i64 xs, .bool xo] #[.int .i64 ys, .bool yo] 46
        have hx1 : (#[Value.int IntKind.i64 xs, Value.bool xo] : Array Value).extract 0 2 = #[Value.int IntKind.i64 xs, Value.bool xo] := rfl
        have hx2 : (#[Value.int IntKind.i64 ys, Value.bool yo] : Array Value).extract 0 2 = #[Value.int IntKind.i64 ys, Value.bool yo] := rfl
        have B3 := hide (B2.out.trans (hbW.mono B2.out.size))
        have O3 := hide (OwnV2.below O2.out hbW)
        clear b2 hbW hz
        go_wp2_with fail
        refine (KN.out _).mono ?_
        rintro e w3 ⟨rfl, b3⟩
        have B4 := hide (B3.out.trans (b3.mono B3.out.size))
        have O4 := hide (OwnV2.below O3.out b3)
        have hO := hide (World.ownsRow.alloc O4.out (.cells #[.int .i64 zs, .bool zo] 46))
        have hNw : Hid (0 < 1 → ∃ b off, (some ⟨w3.heap.size, 0, none⟩ : Option Addr) = some ⟨b, off, none⟩ ∧ ∀ j u, [Value.int .i64 zs, Value.bool zo][j]? = some u → (w3.alloc (.cells #[.int .i64 zs, .bool zo] 46)).cell? ⟨b, off + j, none⟩ = some u) := hide fun _ => ⟨_, _, rfl, fun j u hj => by
          rw [cell_of_row _ w3.heap.size _ _ _ _ (heap_alloc_new w3 _), Nat.zero_add]; simpa using hj⟩
        have hbs := hide B4.out.size
        have hZ : Hid (w.heap.size ≤ (w3.alloc (.cells #[.int .i64 zs, .bool zo] 46)).heap.size) := hide (by have := hbs.out; simp; omega)
        clear b3 r1 r2 hW
        go_wp2_with (first
          | (at_builtin; refine wpList_app_two rfl (.tmp 23) (.tmp 29) w.heap.size 32 46 i0 _ 16 rfl Try.underlying32 hi hz0 hz1 hz2 rfl _ k (voC (J.take k)) (some ⟨w3.heap.size, 0, none⟩) 1 1 [Value.int .i64 zs, Value.bool zo] rfl rfl hO.out rfl hNw.out (fun e => by cases e) (by simp [Value.oneCell']) (by unfold maxLen; omega) (by omega) hZ.out ?_)
          | fail)
        intro v5 w5 hown5 hgrow5 hat5
        rw [← HT.out] at hown5
        have HO5 := hide hown5
        have HB5 : Hid (Below w.heap.size w w5) := hide ((B4.out.alloc hbs.out _).grown hgrow5 hZ.out (fun g hg => (World.ownsRow.lt O4.out g hg).1))
        clear hown5 hgrow5 hat5 hO hZ hown hbel
        go_wp2
        go_roundw
        case rel => exact ⟨k + 1, by omega, by go_num, HO5, HB5⟩
        case measure => simp [intOf]; omega
      · obtain rfl : k = M := by omega
        have HF : Hid (∀ v, wr.ownsRow w.heap.size 46 2 v k (voC (J.take k)) → VotesP w J (.returned v) wr) := hide fun v h => by
          rw [List.take_of_length_le (by rw [HJL.out]; exact Nat.le_refl _)] at h
          exact ⟨v, rfl, by unfold OwnVo; rw [HJL.out]; exact h, hbel.out⟩
        clear hlt hbel
        go_wp2
        go_ret
        exact HF.out _ hown.out
  · have hmx2 : (n2 : Int) ≤ (n : Int) := by omega
    obtain rfl : M = n := by omega
    clear hle hmx
    go_enter Try.func49, Try.ntmps49
    go_wp2
    go_loopw [5, 14] (fun u v wr => ∃ k : Nat, k ≤ M ∧ v = .int .i64 (k : Int) ∧ Hid (wr.ownsRow w.heap.size 46 2 u k (voC (J.take k))) ∧ Hid (Below w.heap.size w wr)) (fun _ v _ => M - (intOf v).toNat)
    case atStart => exact ⟨0, by omega, rfl, hide (by rw [List.take_zero]; exact World.ownsRow_nil _ _ _ _), hide (Below.refl _ _)⟩
    case round =>
      obtain ⟨k, hk, rfl, hown, hbel⟩ := hrel
      by_cases hlt : k < M
      · have hjt := HJM.out k hlt
        have KA := K1.out wr hbel.out k
        have KB := hide (fun W (b : Below w.heap.size w W) => K2.out W b k)
        have KN := hide (fun W => notAheadV_any W (voteAt l k) (voteAt m k))
        obtain ⟨x, hx⟩ : ∃ x, x = voteAt l k := ⟨_, rfl⟩
        obtain ⟨y, hy⟩ : ∃ y, y = voteAt m k := ⟨_, rfl⟩
        obtain ⟨z, hz⟩ : ∃ z, z = vjoin x y := ⟨_, rfl⟩
        rw [← hx] at KA KN hjt
        rw [← hy] at KB KN hjt
        rw [← hz] at KN hjt
        obtain ⟨xs, xo⟩ := x
        obtain ⟨ys, yo⟩ := y
        obtain ⟨zs, zo⟩ := z
        unfold voV at KA KB KN
        have HT : Hid (voC (J.take (k + 1)) = voC (J.take k) ++ [.int .i64 zs, .bool zo]) := hide (by rw [hjt, voC_snoc])
        have HKA := hide KA
        clear hx hy hz hjt KA
        go_wp2_with fail
        refine HKA.out.mono ?_
        rintro e w1 ⟨rfl, b1⟩
        have B1 := hide (hbel.out.trans (b1.mono hbel.out.size))
        have O1 := hide (OwnV2.below hown.out b1)
        clear b1
        go_wp2_with fail
        refine (KB.out w1 B1.out).mono ?_
        rintro e w2 ⟨rfl, b2⟩
        have B2 := hide (B1.out.trans (b2.mono B1.out.size))
        have O2 := hide (OwnV2.below O1.out b2)
        obtain ⟨W, hW, r1, r2, hz, hbW⟩ := two_new w2 #[.int .i64 xs, .bool xo] #[.int .i64 ys, .bool yo] 46
        have hx1 : (#[Value.int IntKind.i64 xs, Value.bool xo] : Array Value).extract 0 2 = #[Value.int IntKind.i64 xs, Value.bool xo] := rfl
        have hx2 : (#[Value.int IntKind.i64 ys, Value.bool yo] : Array Value).extract 0 2 = #[Value.int IntKind.i64 ys, Value.bool yo] := rfl
        have B3 := hide (B2.out.trans (hbW.mono B2.out.size))
        have O3 := hide (OwnV2.below O2.out hbW)
        clear b2 hbW hz
        go_wp2_with fail
        refine (KN.out _).mono ?_
        rintro e w3 ⟨rfl, b3⟩
        have B4 := hide (B3.out.trans (b3.mono B3.out.size))
        have O4 := hide (OwnV2.below O3.out b3)
        have hO := hide (World.ownsRow.alloc O4.out (.cells #[.int .i64 zs, .bool zo] 46))
        have hNw : Hid (0 < 1 → ∃ b off, (some ⟨w3.heap.size, 0, none⟩ : Option Addr) = some ⟨b, off, none⟩ ∧ ∀ j u, [Value.int .i64 zs, Value.bool zo][j]? = some u → (w3.alloc (.cells #[.int .i64 zs, .bool zo] 46)).cell? ⟨b, off + j, none⟩ = some u) := hide fun _ => ⟨_, _, rfl, fun j u hj => by
          rw [cell_of_row _ w3.heap.size _ _ _ _ (heap_alloc_new w3 _), Nat.zero_add]; simpa using hj⟩
        have hbs := hide B4.out.size
        have hZ : Hid (w.heap.size ≤ (w3.alloc (.cells #[.int .i64 zs, .bool zo] 46)).heap.size) := hide (by have := hbs.out; simp; omega)
        clear b3 r1 r2 hW
        go_wp2_with (first
          | (at_builtin; refine wpList_app_two rfl (.tmp 23) (.tmp 29) w.heap.size 32 46 i0 _ 16 rfl Try.underlying32 hi hz0 hz1 hz2 rfl _ k (voC (J.take k)) (some ⟨w3.heap.size, 0, none⟩) 1 1 [Value.int .i64 zs, Value.bool zo] rfl rfl hO.out rfl hNw.out (fun e => by cases e) (by simp [Value.oneCell']) (by unfold maxLen; omega) (by omega) hZ.out ?_)
          | fail)
        intro v5 w5 hown5 hgrow5 hat5
        rw [← HT.out] at hown5
        have HO5 := hide hown5
        have HB5 : Hid (Below w.heap.size w w5) := hide ((B4.out.alloc hbs.out _).grown hgrow5 hZ.out (fun g hg => (World.ownsRow.lt O4.out g hg).1))
        clear hown5 hgrow5 hat5 hO hZ hown hbel
        go_wp2
        go_roundw
        case rel => exact ⟨k + 1, by omega, by go_num, HO5, HB5⟩
        case measure => simp [intOf]; omega
      · obtain rfl : k = M := by omega
        have HF : Hid (∀ v, wr.ownsRow w.heap.size 46 2 v k (voC (J.take k)) → VotesP w J (.returned v) wr) := hide fun v h => by
          rw [List.take_of_length_le (by rw [HJL.out]; exact Nat.le_refl _)] at h
          exact ⟨v, rfl, by unfold OwnVo; rw [HJL.out]; exact h, hbel.out⟩
        clear hlt hbel
        go_wp2
        go_ret
        exact HF.out _ hown.out
end Go.Proofs.Ytmbddengmheeeaa
