/-
  The walks of Rank, the program's and the document's.
-/
import Derived.Test.YtlpihjbnfdfbaaaOd
namespace Go.Proofs.Ytlpihjbnfdfbaaa
open Go.RowKit
set_option linter.unusedVariables false
set_option maxRecDepth 100000

/-- some numbers as replicas. -/
def natL (l : List Int) : List Nat := l.map Int.toNat
theorem natL_natI (m : List Nat) : natL (natI m) = m := by simp [natL, natI, Function.comp_def]
def rankR (l : List Int) (h : BitVec 64) : List Nat := if risL l = true then rankL (kN h) (natL l) else []
def rankE (l : List Int) : Int := if risL l = true then 0 else 1
def RankPost (w : World) (l : List Int) (h : BitVec 64) (e : Ending) (w' : World) : Prop :=
  ∃ v, e = .returned (.tuple #[v, .int .i64 (rankE l)]) ∧ OwnR w' w.heap.size 3 v ((rankR l h).map inV) ∧ Below w.heap.size w w'
theorem RankPost.no {w w' : World} {l : List Int} {h : BitVec 64} (hr : risL l = false) (hb : Below w.heap.size w w') : RankPost w l h (.returned (.tuple #[.slice none 0 0, .int .i64 1])) w' := by
  refine ⟨.slice none 0 0, ?_, ?_, hb⟩
  · unfold rankE; rw [hr]; rfl
  · unfold rankR; rw [hr]; exact OwnR.nil _ _ _
theorem OwnR.less {w : World} {base base' t : Nat} {v : Value} {xs : List Value} (h : OwnR w base t v xs) (hb : base' ≤ base) : OwnR w base' t v xs := by
  refine ⟨h.1, ?_⟩
  rcases h.2 with h | ⟨g, cap, cur, h1, h2, h3⟩
  · exact .inl h
  · exact .inr ⟨g, cap, cur, h1, by omega, h3⟩
/-- what the rows hold behind k steps. -/
structure RK (w1 wr : World) (K : Nat → Nat) (m : List Nat) (k : Nat) : Prop where
  bel : Below w1.heap.size w1 wr
  ranked : OwnR wr w1.heap.size 3 (.slice (some ⟨w1.heap.size, 0, none⟩) m.length m.length) ((rankS K m k).map inV)
theorem RK.start {w1 : World} {K : Nat → Nat} {m : List Nat} (hm : m.length ≤ 16) : RK w1 (w1.alloc (.cells (madeCells #[.int .i64 0] m.length) 3)) K m 0 := by
  refine ⟨(Below.refl _ _).alloc (Nat.le_refl _) _, ?_⟩
  have hl := World.ownsRow_lit (e := 3) (size := 1) (base := w1.heap.size) w1 (madeCells #[Value.int .i64 0] m.length) m.length (Nat.le_refl _) (by unfold maxLen; omega) (by rw [size_madeCells]; omega)
  have e : (rankS K m 0).map inV = (madeCells #[Value.int .i64 0] m.length).toList := by
    rw [rankS_zero, toList_madeCells_one, List.map_replicate]; rfl
  unfold OwnR
  rw [e, toList_madeCells_one, List.length_replicate, ← toList_madeCells_one]
  exact hl
theorem RK.step {w1 wr w2 : World} {K : Nat → Nat} {m : List Nat} {k x p : Nat} (h : RK w1 wr K m k) (hk : k < m.length) (hx : x = m[k]) (hp : p = posL K m x) (hb : Below wr.heap.size wr w2) :
    RK w1 (w2.setCell ⟨w1.heap.size, p, none⟩ (.int .i64 (x : Int))) K m (k + 1) := by
  have h1 := h.ranked.below hb
  obtain ⟨s1, s2⟩ := h1.set p (.int .i64 (x : Int))
  refine ⟨(h.bel.trans (hb.mono h.bel.size)).setCell (Nat.le_refl _) _, ?_⟩
  rw [rankS_succ K m hk, List.map_set, ← hx, ← hp]
  exact s1
theorem RK.cell {w1 wr w2 : World} {K : Nat → Nat} {m : List Nat} {k p : Nat} (h : RK w1 wr K m k) (hp : p < m.length) (hb : Below wr.heap.size wr w2) :
    (∃ z : Int, w2.cell? ⟨w1.heap.size, p, none⟩ = some (.int .i64 z)) ∧ w2.frozen? ⟨w1.heap.size, p, none⟩ = false := by
  have h1 := h.ranked.below hb
  refine ⟨?_, h1.frozen _⟩
  have hl : p < ((rankS K m k).map inV).length := by rw [List.length_map, rankS_len]; exact hp
  have := h1.cell p hl
  rw [List.getElem_map] at this
  exact ⟨_, this⟩

theorem before_same (w : World) (a b : Nat) (h : BitVec 64) (ha : a < 16) (hb : b < 16) :
    Calls Try.prog 44 #[.int .i64 (a : Int), .int .i64 (b : Int), .int .u64 (h.toNat : Int)] w fun e w' => e = .returned (.bool (bef (kN h) a b)) ∧ w' = w :=
  (before_any w a b h ha hb).mono fun e w' hh => by unfold BefPost at hh; exact ⟨hh.1, hh.2.symm⟩

set_option maxHeartbeats 8000000 in
theorem refrank_any (w : World) (B : Nat) (A : Option Addr) (c : Nat) (l : List Int) (h : BitVec 64) (hl : l.length ≤ 17592186044416) (hB : B ≤ w.heap.size) (hb : IntS w B A l) :
    Calls Try.prog 13 #[.slice A l.length c, .int .u64 (h.toNat : Int)] w (RankPost w l h) := by
  have KR := hide (reforight_any w B A c l hl hb)
  unfold RisQ at KR
  cases hr : risL l
  · have HF := hide (fun w' hb => RankPost.no (w := w) (w' := w') (h := h) hr hb)
    rw [hr] at KR
    clear hr
    go_enter Try.func13, Try.ntmps13
    go_wp2_with (first | ((with_reducible refine KR.out.mono ?_); rintro e w1 ⟨rfl, q, rfl⟩) | fail)
    go_ret2
    exact HF.out _ (below_drewN (Below.refl _ _) _)
  · obtain ⟨m, rfl, hm⟩ := right_reps hr
    have hm16 := hm.len
    have HF : Hid (∀ w1 wr, Below w.heap.size w w1 → RK w1 wr (kN h) m m.length → RankPost w (natI m) h (.returned (.tuple #[.slice (some ⟨w1.heap.size, 0, none⟩) m.length m.length, .int .i64 0])) wr) := hide fun w1 wr hb1 hk => by
      refine ⟨_, by unfold rankE; rw [hr]; rfl, ?_, hb1.trans (hk.bel.mono hb1.size)⟩
      unfold rankR
      rw [if_pos hr, natL_natI]
      exact hk.ranked.less hb1.size
    rw [hr] at KR
    have HI := hide hb
    have H16 := hide hm.lt
    obtain ⟨K, hK⟩ : ∃ K, K = kN h := ⟨_, rfl⟩
    have KBe := hide (fun W a b ha hb => before_same W a b h ha hb)
    rw [← hK] at KBe
    rw [← hK] at HF
    obtain ⟨N, hN⟩ : ∃ N, N = h.toNat := ⟨_, rfl⟩
    rw [← hN] at KBe ⊢
    obtain ⟨n, hn⟩ : ∃ n, n = m.length := ⟨_, rfl⟩
    have HN := hide hn
    rw [natI_len, ← hn] at KR ⊢
    rw [← hn] at HF hm16
    clear hn hN hK hr hb hl hm
    obtain ⟨i1, hj, hj0, hj1, hj2⟩ := info_parts info_in
    have hmk : Hid (∀ w1 : World, (Instr.makeSlice 22 (.int .i64 (n : Int)) (.int .i64 (n : Int))).run Try.prog w1 = .ok (.slice (some ⟨w1.heap.size, 0, none⟩) n n) (w1.alloc (.cells (madeCells #[.int .i64 0] n) 3))) := hide fun w1 => by
      have h := run_make (P := Try.prog) w1 22 3 i1 _ Try.underlying22 hj hj0 .i64 .i64 n n (by omega) (by omega) (by rw [hj2]; omega) (by omega)
      simp only [Int.toNat_natCast, hj1, Nat.mul_one] at h
      exact h
    clear hj hj0 hj1 hj2
    go_enter Try.func13, Try.ntmps13
    go_wp2_with fail
    refine KR.out.mono ?_
    rintro e w1 ⟨rfl, q, hw1⟩
    have HB1 : Hid (Below w.heap.size w w1) := hide (by rw [hw1]; exact below_drewN (Below.refl _ _) _)
    have hmk1 := hmk.out w1
    have HS : Hid (RK w1 (w1.alloc (.cells (madeCells #[.int .i64 0] n) 3)) K m 0) := hide (by
      have := RK.start (w1 := w1) (K := K) (m := m) (by rw [← HN.out]; exact hm16)
      rw [← HN.out] at this; exact this)
    have HI1 : Hid (IntS w1 B A (natI m)) := hide (HI.out.below HB1.out hB)
    have hB1 : B ≤ w1.heap.size := Nat.le_trans hB HB1.out.size
    clear hw1 KR HI
    go_wp2
    go_loopw [7] (fun v wr => ∃ k : Nat, k ≤ n ∧ v = .int .i64 (k : Int) ∧ Hid (RK w1 wr K m k)) (fun v _ => n - (intOf v).toNat)
    case atStart => exact ⟨0, by omega, rfl, HS⟩
    case round =>
      obtain ⟨k, hk, rfl, hrk⟩ := hrel
      by_cases hlt : k < n
      · have hkl : k < m.length := by rw [← HN.out]; exact hlt
        have hB2 := HI1.out.below hrk.out.bel hB1
        obtain ⟨b, off, rfl, hbB, hc⟩ := hB2 (by rw [natI_len]; omega)
        have h1 := hc k (by rw [natI_len]; exact hkl)
        rw [natI_at] at h1
        have hx16 := H16.out m[k] (List.getElem_mem hkl)
        have hp0 := posL_lt_at K hkl
        rw [← HN.out] at hp0
        obtain ⟨x, hx⟩ : ∃ x, x = m[k] := ⟨_, rfl⟩
        rw [← hx] at h1 hx16 hp0
        have HX := hide hx
        have HT : Hid (∀ j, posT K m x j ≤ j) := hide (posT_le K m x)
        have hji : (k : Int) < (n : Int) := by omega
        clear hx hc hB2
        obtain ⟨wo, rfl⟩ : ∃ wo, wo = wr := ⟨_, rfl⟩
        go_wp2
        go_loopw [8, 9] (fun u v wr => ∃ j q : Nat, j ≤ n ∧ u = .int .i64 (posT K m x j : Int) ∧ v = .int .i64 (j : Int) ∧ Hid (wr = wo.drewN q)) (fun _ v _ => n - (intOf v).toNat)
        case atStart => exact ⟨0, 0, by omega, by rw [posT_zero]; rfl, rfl, hide rfl⟩
        case round =>
          obtain ⟨j, q, hj, rfl, rfl, hws⟩ := hrel
          have h1w : wr.cell? ⟨b, off + k, none⟩ = some (.int .i64 (x : Int)) := by rw [hws.out]; exact h1
          have hBw : Hid (Below wo.heap.size wo wr) := hide (by rw [hws.out]; exact below_drewN (Below.refl _ _) _)
          by_cases hjlt : j < n
          · have hjl : j < m.length := by rw [← HN.out]; exact hjlt
            have hB3 := (HI1.out.below hrk.out.bel hB1)
            obtain ⟨b', off', he, _, hc⟩ := hB3 (by rw [natI_len]; omega)
            simp only [Option.some.injEq, Addr.mk.injEq, and_true] at he
            obtain ⟨rfl, rfl⟩ := he
            have h2 := hc j (by rw [natI_len]; exact hjl)
            rw [natI_at] at h2
            have hy16 := H16.out m[j] (List.getElem_mem hjl)
            have hps := posT_succ K m x hjl
            obtain ⟨y, hy⟩ : ∃ y, y = m[j] := ⟨_, rfl⟩
            rw [← hy] at h2 hy16 hps
            have h2w : wr.cell? ⟨b, off + j, none⟩ = some (.int .i64 (y : Int)) := by rw [hws.out]; exact h2
            have KB1 := hide (fun W => KBe.out W y x hy16 hx16)
            obtain ⟨r, hr⟩ : ∃ r, r = bef K y x := ⟨_, rfl⟩
            rw [← hr] at KB1 hps
            have HPS := hide hps
            have hpt := HT.out j
            obtain ⟨t, ht⟩ : ∃ t, t = posT K m x j := ⟨_, rfl⟩
            rw [← ht] at HPS hpt ⊢
            have hjj : (j : Int) < (n : Int) := by omega
            clear hc hB3 hy hr hps h1 h2 ht
            cases r
            · go_wp2
              go_quiet ((go_at_call 44; exact Calls.quiet_of_same (KB1.out _)))
              go_wp2
              go_roundw
              case rel => exact ⟨j + 1, q + nq, by omega, by rw [HPS.out]; rfl, by go_num, hide (by rw [hws.out, World.drewN_drewN])⟩
              case measure => simp [intOf]; omega
            · go_wp2
              go_quiet ((go_at_call 44; exact Calls.quiet_of_same (KB1.out _)))
              go_wp2
              go_roundw
              case rel => exact ⟨j + 1, q + nq, by omega, by rw [HPS.out]; go_num, by go_num, hide (by rw [hws.out, World.drewN_drewN])⟩
              case measure => simp [intOf]; omega
          · obtain rfl : j = n := by omega
            have hpp : posT K m x j = posL K m x := by rw [HN.out]; exact posT_all K m x
            obtain ⟨p, hp⟩ : ∃ p, p = posL K m x := ⟨_, rfl⟩
            rw [hpp, ← hp]
            rw [← hp] at hp0
            obtain ⟨⟨z, hz⟩, hf⟩ := hrk.out.cell (p := p) (by rw [← HN.out]; exact hp0) hBw.out
            have HS2 := hide (hrk.out.step hkl HX.out hp hBw.out)
            have hpi : (p : Int) < (j : Int) := by omega
            clear hp hpp h1 hjlt
            go_wp2
            go_roundw
            case rel => exact ⟨k + 1, by omega, by go_num, HS2⟩
            case measure => simp [intOf]; omega
      · obtain rfl : k = n := by omega
        have HG := hide (HF.out w1 wr HB1.out (by rw [HN.out] at hrk; rw [HN.out]; exact hrk.out))
        clear hlt hrk
        go_wp2
        go_ret2
        exact HG.out
theorem block1 (w : World) (a : Obj) : ∃ W, w.alloc a = W ∧ W.heap[w.heap.size]? = some a ∧ W.heap.size = w.heap.size + 1 ∧ Below w.heap.size w W :=
  ⟨_, rfl, heap_alloc_new _ _, by simp, (Below.refl _ _).alloc (Nat.le_refl _) _⟩
theorem arm1 {W w2 wr : World} {o : Obj} {v : Value} (hb : Below W.drew.heap.size W.drew w2) (hz : W.heap.size = wr.heap.size + 1) (hbw : Below wr.heap.size wr W) (h0 : W.heap[wr.heap.size]? = some o) (hc : W.cell? ⟨wr.heap.size, 0, none⟩ = some v) :
    Below wr.heap.size wr w2 ∧ w2.heap[wr.heap.size]? = some o ∧ w2.cell? ⟨wr.heap.size, 0, none⟩ = some v ∧ wr.heap.size < w2.heap.size := by
  have hB : Below W.heap.size W w2 := below_undrew' hb
  exact ⟨hbw.trans (hB.mono (by omega)), (hB.block _ (by omega)).trans h0, (hB.cell (show (⟨wr.heap.size, 0, none⟩ : Addr).block < W.heap.size by show wr.heap.size < _; omega)).trans hc, by have := hB.size; omega⟩
theorem arm2 {w1 wr w2 : World} {K : Nat → Nat} {m : List Nat} {k p : Nat} {o : Obj} {u v : Value} (h : RK w1 wr K m k) (hb : Below wr.heap.size wr w2) (hlt : wr.heap.size < w2.heap.size) (h0 : w2.heap[wr.heap.size]? = some o) (hc : w2.cell? ⟨wr.heap.size, 0, none⟩ = some v) :
    (w2.setCell ⟨w1.heap.size, p, none⟩ u).heap[wr.heap.size]? = some o ∧ (w2.setCell ⟨w1.heap.size, p, none⟩ u).cell? ⟨wr.heap.size, 0, none⟩ = some v := by
  have hg := ((h.ranked.below hb).set p u).2
  have hlt1 := (h.ranked.at w1.heap.size rfl).2
  have hne : (some wr.heap.size : Option Nat) ≠ some w1.heap.size := by simp; omega
  exact ⟨(hg.block _ hlt hne).trans h0, (World.cell?_of_block (a := ⟨wr.heap.size, 0, none⟩) (hg.block _ hlt hne)).trans hc⟩
section
attribute [local go_sem ↓] exec_span exec_put exec_build heap_alloc_new heap_old
attribute [local go_sem] spanQ_ptr spanC_some heap_of_drew heap_of_drewN rs_claim putAt_ptr putOk_ptr oldOk_some
set_option maxHeartbeats 8000000 in
theorem orank_any (w : World) (B : Nat) (A : Option Addr) (c : Nat) (l : List Int) (h : BitVec 64) (hl : l.length ≤ 17592186044416) (hB : B ≤ w.heap.size) (hb : IntS w B A l) :
    Calls Try.prog 12 #[.slice A l.length c, .int .u64 (h.toNat : Int)] w (RankPost w l h) := by
  have KR := hide (oright_any w B A c l hl hb)
  unfold RisPost at KR
  cases hr : risL l
  · have HF := hide (fun w' hb => RankPost.no (w := w) (w' := w') (h := h) hr hb)
    rw [hr] at KR
    clear hr
    go_enter Try.func12, Try.ntmps12
    go_wp2_with (first | ((with_reducible refine KR.out.mono ?_); rintro e w1 ⟨rfl, rfl⟩) | fail)
    go_ret2
    exact HF.out _ (Below.refl _ _)
  · obtain ⟨m, rfl, hm⟩ := right_reps hr
    have hm16 := hm.len
    have HF : Hid (∀ w1 wr, Below w.heap.size w w1 → RK w1 wr (kN h) m m.length → RankPost w (natI m) h (.returned (.tuple #[.slice (some ⟨w1.heap.size, 0, none⟩) m.length m.length, .int .i64 0])) wr) := hide fun w1 wr hb1 hk => by
      refine ⟨_, by unfold rankE; rw [hr]; rfl, ?_, hb1.trans (hk.bel.mono hb1.size)⟩
      unfold rankR
      rw [if_pos hr, natL_natI]
      exact hk.ranked.less hb1.size
    rw [hr] at KR
    have HI := hide hb
    obtain ⟨K, hK⟩ : ∃ K, K = kN h := ⟨_, rfl⟩
    have KCl := hide (fun W hBW hI => claimsOf_any W B A c m h hm16 hm.lt hBW hI)
    have KCo := hide (fun W B' A' c' a hB' hI => ocount_any W B' A' c' (kN h) m a hm16 hB' hI)
    rw [← hK] at KCl KCo
    rw [← hK] at HF
    obtain ⟨N, hN⟩ : ∃ N, N = h.toNat := ⟨_, rfl⟩
    rw [← hN] at KCl ⊢
    obtain ⟨n, hn⟩ : ∃ n, n = m.length := ⟨_, rfl⟩
    have HN := hide hn
    rw [natI_len, ← hn] at KR ⊢
    rw [← hn] at HF hm16 KCl KCo
    clear hn hN hK hr hb hl hm
    obtain ⟨i1, hj, hj0, hj1, hj2⟩ := info_parts info_in
    have hmk : Hid (∀ w1 : World, (Instr.makeSlice 22 (.int .i64 (n : Int)) (.int .i64 (n : Int))).run Try.prog w1 = .ok (.slice (some ⟨w1.heap.size, 0, none⟩) n n) (w1.alloc (.cells (madeCells #[.int .i64 0] n) 3))) := hide fun w1 => by
      have h := run_make (P := Try.prog) w1 22 3 i1 _ Try.underlying22 hj hj0 .i64 .i64 n n (by omega) (by omega) (by rw [hj2]; omega) (by omega)
      simp only [Int.toNat_natCast, hj1, Nat.mul_one] at h
      exact h
    clear hj hj0 hj1 hj2
    go_enter Try.func12, Try.ntmps12
    have hmf : ∀ (fn : Fn) (first cap : Array Value) (w : World), (Instr.makeFunc fn first cap).run Try.prog w = .ok (.func fn first cap) w := fun _ _ _ _ => rfl
    go_wp2_with fail
    refine KR.out.mono ?_
    rintro e w0 ⟨rfl, rfl⟩
    go_wp2_with fail
    refine (KCl.out _ hB HI.out).mono ?_
    rintro e w1 ⟨vc, rfl, hoc, hbc⟩
    obtain ⟨Ac, cc, rfl, hcc, hcl⟩ := row_claims hoc
    rw [← HN.out] at hcc ⊢
    have HB1 := hide hbc
    have hmk1 := hmk.out w1
    have HS : Hid (RK w1 (w1.alloc (.cells (madeCells #[.int .i64 0] n) 3)) K m 0) := hide (by
      have := RK.start (w1 := w1) (K := K) (m := m) (by rw [← HN.out]; exact hm16)
      rw [← HN.out] at this; exact this)
    have HC1 := hide hcl
    clear hoc hbc hcl KR HI KCl
    go_wp2
    go_loopw [21] (fun v wr => ∃ k : Nat, k ≤ n ∧ v = .int .i64 (k : Int) ∧ Hid (RK w1 wr K m k)) (fun v _ => n - (intOf v).toNat)
    case atStart => exact ⟨0, by omega, rfl, HS⟩
    case round =>
      obtain ⟨k, hk, rfl, hrk⟩ := hrel
      by_cases hlt : k < n
      · have hkl : k < m.length := by rw [← HN.out]; exact hlt
        have hB2 := HC1.out.below hrk.out.bel (Nat.le_refl _)
        obtain ⟨b, off, rfl, hbB, hc⟩ := hB2 (by omega)
        obtain ⟨h1, h2⟩ := hc k hkl
        have hp0 := posL_lt_at K hkl
        rw [← HN.out] at hp0
        obtain ⟨x, hx⟩ : ∃ x, x = m[k] := ⟨_, rfl⟩
        rw [← hx] at h1 h2 hp0
        have HX := hide hx
        obtain ⟨y, hy⟩ : ∃ y, y = K x := ⟨_, rfl⟩
        rw [← hy] at h2
        have hji : (k : Int) < (n : Int) := by omega
        obtain ⟨p, hp⟩ : ∃ p, p = posL K m x := ⟨_, rfl⟩
        rw [← hp] at hp0
        have KCo1 : Hid (∀ W, w1.heap.size ≤ W.heap.size → Below w1.heap.size w1 W → Calls Try.prog 41 #[.slice (some ⟨b, off, none⟩) n cc, .func (.func 42) #[.agg #[.int .i64 (x : Int), .int .u64 (y : Int)]] #[]] W (CntPost W p)) := hide fun W hW hbW => by
          rw [hp, hy]; exact KCo.out W w1.heap.size _ cc x hW (HC1.out.below hbW (Nat.le_refl _))
        have HP := hide hp
        have HPL : Hid (p < m.length) := hide (by rw [← HN.out]; exact hp0)
        have hpi : (p : Int) < (n : Int) := by omega
        obtain ⟨W, hW, hw0, hsz, hbW⟩ := block1 wr (.cells #[.int .i64 (x : Int), .int .u64 (y : Int)] 78)
        have HBW := hide hbW
        have HZW := hide hsz
        have hc0 : W.cell? ⟨wr.heap.size, 0, none⟩ = some (.int .i64 (x : Int)) := (cell_of_row W _ _ _ _ _ hw0).trans rfl
        have hxs : (#[Value.int IntKind.i64 ↑x, Value.int IntKind.u64 ↑y] : Array Value).extract 0 2 = #[Value.int IntKind.i64 ↑x, Value.int IntKind.u64 ↑y] := rfl
        have hbrk := hide hrk.out.bel
        have KCo3 := hide (KCo1.out W.drew (show w1.heap.size ≤ W.heap.size by have := hbrk.out.size; have := HZW.out; omega) (hbrk.out.trans (hbW.mono hbrk.out.size)).drew)
        clear hc hB2 hx hy hp hsz hbW
        go_wp2
        go_region_held3 (fun w' => w'.heap[wr.heap.size]? = some (.cells #[Value.int IntKind.i64 ↑x, Value.int IntKind.u64 ↑y] 78 (0, 0)) ∧ w'.cell? ⟨wr.heap.size, 0, none⟩ = some (.int .i64 (x : Int)))
          (first | exact ⟨hw0, hc0⟩ | exact ⟨hw2, hc2⟩ | exact arm2 hrk.out B2.out HL2.out hw2 hc2 | assumption)
          (first | (go_at_call 41; (with_reducible refine KCo3.out.mono ?_); rintro e w2 ⟨rfl, hb2⟩; have HA := arm1 hb2 HZW.out HBW.out hw0 hc0; have B2 := hide HA.1; have hw2 := HA.2.1; have hc2 := HA.2.2.1; have HL2 := hide HA.2.2.2; clear HA; have HRC := hrk.out.cell HPL.out B2.out; have hz := HRC.1; have hf := HRC.2; obtain ⟨z, hz⟩ := hz; clear HRC))
        have HS2 := hide (hrk.out.step hkl HX.out HP.out B2.out)
        clear hb2 hw2 hc2 hf hz
        go_wp2
        go_roundw
        case rel => exact ⟨k + 1, by omega, by go_num, HS2⟩
        case measure => simp [intOf]; omega
      · obtain rfl : k = n := by omega
        have HG := hide (HF.out w1 wr HB1.out (by rw [HN.out] at hrk; rw [HN.out]; exact hrk.out))
        clear hlt hrk
        go_wp2
        go_ret2
        exact HG.out
end
end Go.Proofs.Ytlpihjbnfdfbaaa
