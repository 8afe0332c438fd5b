/-
  The walks of Of, Mask, List and of small helpers: the first one of a rank; replicas as bits.
-/
import Derived.Test.YtlpihjbnfdfbaaaOe
import Derived.Test.YtlpihjbnfdfbaaaBits
namespace Go.Proofs.Ytlpihjbnfdfbaaa
open Go.RowKit
set_option linter.unusedVariables false
set_option maxRecDepth 100000

def owV (l : List Int) (h : BitVec 64) : Nat := (rankR l h).headD 0
def owE (l : List Int) : Int := if risL l = true then (if l.length = 0 then 20 else 0) else 1
theorem rankR_len (l : List Int) (h : BitVec 64) : (rankR l h).length = if risL l = true then l.length else 0 := by
  unfold rankR
  by_cases hr : risL l = true
  · rw [if_pos hr, if_pos hr, rankL, rankS_len]; simp [natL]
  · rw [if_neg hr, if_neg hr]; rfl
theorem rank_own {w : World} {base : Nat} {v : Value} {ts : List Nat} {T : Nat} (ho : OwnR w base 3 v (ts.map inV)) (hT : T = ts.length) :
    ∃ A c, v = .slice A T c ∧ (0 < T → ∃ g, A = some ⟨g, 0, none⟩ ∧ g < w.heap.size ∧ ∀ j (hj : j < ts.length), w.cell? ⟨g, j, none⟩ = some (.int .i64 (ts[j] : Int))) := by
  subst hT
  rcases Nat.eq_zero_or_pos ts.length with h0 | hp
  · obtain ⟨A, c, e, _⟩ := ho.shape
    refine ⟨A, c, by rw [e, List.length_map], fun h => by omega⟩
  · obtain ⟨g, c, e, _, hlt, _⟩ := ho.pos (by rw [List.length_map]; exact hp)
    refine ⟨_, c, by rw [e, List.length_map], fun _ => ⟨g, rfl, hlt, fun j hj => ?_⟩⟩
    rw [e] at ho
    have := ho.cell j (by rw [List.length_map]; exact hj)
    rw [this, List.getElem_map]; rfl
theorem headD_at : ∀ {t : List Nat} (h : 0 < t.length), t.headD 0 = t[0]
  | [], h => by simp at h
  | a :: t, _ => rfl
def OfPost (w : World) (l : List Int) (h : BitVec 64) (e : Ending) (w' : World) : Prop := e = .returned (.tuple #[.int .i64 (owV l h : Int), .int .i64 (owE l)]) ∧ Below w.heap.size w w'
theorem RankPost.open {w w' : World} {l : List Int} {h : BitVec 64} {e : Ending} (hp : RankPost w l h e w') : ∃ v, e = .returned (.tuple #[v, .int .i64 (rankE l)]) ∧ OwnR w' w.heap.size 3 v ((rankR l h).map inV) ∧ Below w.heap.size w w' := hp

set_option maxHeartbeats 2000000 in
theorem oof_any (w : World) (B : Nat) (A : Option Addr) (c : Nat) (l : List Int) (h : BitVec 64) (hl : l.length ≤ 17592186044416) (hB : B ≤ w.heap.size) (hb : IntS w B A l) :
    Calls Try.prog 14 #[.slice A l.length c, .int .u64 (h.toNat : Int)] w (OfPost w l h) := by
  have KR := hide (orank_any w B A c l h hl hB hb)
  have hlen := rankR_len l h
  have hpost : Hid (∀ w' v e, Below w.heap.size w w' → v = (owV l h : Int) → e = owE l → OfPost w l h (.returned (.tuple #[.int .i64 v, .int .i64 e])) w') := hide fun w' v e hb h1 h2 => ⟨by rw [h1, h2], hb⟩
  have hv : owV l h = (rankR l h).headD 0 := rfl
  have he : owE l = if risL l = true then (if l.length = 0 then 20 else 0) else 1 := rfl
  have hr : rankE l = if risL l = true then 0 else 1 := rfl
  obtain ⟨N, hN⟩ : ∃ N, N = h.toNat := ⟨_, rfl⟩
  obtain ⟨n, hn⟩ : ∃ n, n = l.length := ⟨_, rfl⟩
  rw [← hn] at hlen he
  rw [← hN] at KR ⊢
  rw [← hn] at KR ⊢
  clear hN hn hb hB
  cases hc : risL l
  · rw [hc] at he hr hlen
    simp only [Bool.false_eq_true, if_false] at he hr hlen
    have hv0 : owV l h = 0 := by rw [hv, List.eq_nil_of_length_eq_zero hlen]; rfl
    rw [hv0, he] at hpost
    clear he hlen hv hv0 hc
    go_enter Try.func14, Try.ntmps14
    go_wp2_with fail
    refine KR.out.mono ?_
    intro e w1 hp
    obtain ⟨v, rfl, ho, hb⟩ := hp.open
    rw [hr]
    have HB := hide hb
    clear ho hb hp
    go_wp2
    go_ret2
    exact hpost.out _ _ _ HB.out rfl rfl
  · rw [hc] at he hr hlen
    simp only [if_true] at he hr hlen
    have HLEN := hide hlen
    by_cases h0 : n = 0
    · rw [if_pos h0] at he
      have hv0 : owV l h = 0 := by rw [hv, List.eq_nil_of_length_eq_zero (l := rankR l h) (by omega)]; rfl
      subst h0
      rw [hv0, he] at hpost
      clear he hlen hv hv0 hc
      go_enter Try.func14, Try.ntmps14
      go_wp2_with fail
      refine KR.out.mono ?_
      intro e w1 hp
      obtain ⟨v, rfl, ho, hb⟩ := hp.open
      rw [hr]
      have HB := hide hb
      obtain ⟨A1, c1, rfl, _⟩ := rank_own ho HLEN.out.symm
      clear ho hb hp
      go_wp2
      go_ret2
      exact hpost.out _ _ _ HB.out rfl rfl
    · rw [if_neg h0] at he
      rw [he] at hpost
      have hx : ∀ hj : 0 < (rankR l h).length, owV l h = (rankR l h)[0] := fun hj => by
        rw [hv]; exact headD_at hj
      have HX := hide hx
      clear he hlen hv hc hx
      go_enter Try.func14, Try.ntmps14
      go_wp2_with fail
      refine KR.out.mono ?_
      intro e w1 hp
      obtain ⟨v, rfl, ho, hb⟩ := hp.open
      rw [hr]
      have HB := hide hb
      obtain ⟨A1, c1, rfl, hA⟩ := rank_own ho HLEN.out.symm
      obtain ⟨g, rfl, _, hcell⟩ := hA (by omega)
      have h00 : 0 < (rankR l h).length := by have := HLEN.out; omega
      have h1 := hcell 0 h00
      rw [← HX.out h00] at h1
      have hpos : (0 : Int) < (n : Int) := by omega
      clear ho hb hp hA hcell h00
      go_wp2
      go_ret2
      exact hpost.out _ _ _ HB.out rfl rfl
set_option maxHeartbeats 2000000 in
theorem orefof_any (w : World) (B : Nat) (A : Option Addr) (c : Nat) (l : List Int) (h : BitVec 64) (hl : l.length ≤ 17592186044416) (hB : B ≤ w.heap.size) (hb : IntS w B A l) :
    Calls Try.prog 15 #[.slice A l.length c, .int .u64 (h.toNat : Int)] w (OfPost w l h) := by
  have KR := hide (refrank_any w B A c l h hl hB hb)
  have hlen := rankR_len l h
  have hpost : Hid (∀ w' v e, Below w.heap.size w w' → v = (owV l h : Int) → e = owE l → OfPost w l h (.returned (.tuple #[.int .i64 v, .int .i64 e])) w') := hide fun w' v e hb h1 h2 => ⟨by rw [h1, h2], hb⟩
  have hv : owV l h = (rankR l h).headD 0 := rfl
  have he : owE l = if risL l = true then (if l.length = 0 then 20 else 0) else 1 := rfl
  have hr : rankE l = if risL l = true then 0 else 1 := rfl
  obtain ⟨N, hN⟩ : ∃ N, N = h.toNat := ⟨_, rfl⟩
  obtain ⟨n, hn⟩ : ∃ n, n = l.length := ⟨_, rfl⟩
  rw [← hn] at hlen he
  rw [← hN] at KR ⊢
  rw [← hn] at KR ⊢
  clear hN hn hb hB
  cases hc : risL l
  · rw [hc] at he hr hlen
    simp only [Bool.false_eq_true, if_false] at he hr hlen
    have hv0 : owV l h = 0 := by rw [hv, List.eq_nil_of_length_eq_zero hlen]; rfl
    rw [hv0, he] at hpost
    clear he hlen hv hv0 hc
    go_enter Try.func15, Try.ntmps15
    go_wp2_with fail
    refine KR.out.mono ?_
    intro e w1 hp
    obtain ⟨v, rfl, ho, hb⟩ := hp.open
    rw [hr]
    have HB := hide hb
    clear ho hb hp
    go_wp2
    go_ret2
    exact hpost.out _ _ _ HB.out rfl rfl
  · rw [hc] at he hr hlen
    simp only [if_true] at he hr hlen
    have HLEN := hide hlen
    by_cases h0 : n = 0
    · rw [if_pos h0] at he
      have hv0 : owV l h = 0 := by rw [hv, List.eq_nil_of_length_eq_zero (l := rankR l h) (by omega)]; rfl
      subst h0
      rw [hv0, he] at hpost
      clear he hlen hv hv0 hc
      go_enter Try.func15, Try.ntmps15
      go_wp2_with fail
      refine KR.out.mono ?_
      intro e w1 hp
      obtain ⟨v, rfl, ho, hb⟩ := hp.open
      rw [hr]
      have HB := hide hb
      obtain ⟨A1, c1, rfl, _⟩ := rank_own ho HLEN.out.symm
      clear ho hb hp
      go_wp2
      go_ret2
      exact hpost.out _ _ _ HB.out rfl rfl
    · rw [if_neg h0] at he
      rw [he] at hpost
      have hx : ∀ hj : 0 < (rankR l h).length, owV l h = (rankR l h)[0] := fun hj => by
        rw [hv]; exact headD_at hj
      have HX := hide hx
      clear he hlen hv hc hx
      go_enter Try.func15, Try.ntmps15
      go_wp2_with fail
      refine KR.out.mono ?_
      intro e w1 hp
      obtain ⟨v, rfl, ho, hb⟩ := hp.open
      rw [hr]
      have HB := hide hb
      obtain ⟨A1, c1, rfl, hA⟩ := rank_own ho HLEN.out.symm
      obtain ⟨g, rfl, _, hcell⟩ := hA (by omega)
      have h00 : 0 < (rankR l h).length := by have := HLEN.out; omega
      have h1 := hcell 0 h00
      rw [← HX.out h00] at h1
      have hpos : (0 : Int) < (n : Int) := by omega
      clear ho hb hp hA hcell h00
      go_wp2
      go_ret2
      exact hpost.out _ _ _ HB.out rfl rfl

def mskV (l : List Int) : Nat := if risL l = true then mskL (natL l) else 0
def MaskPost (w : World) (l : List Int) (e : Ending) (w' : World) : Prop := e = .returned (.tuple #[.int .i64 (mskV l : Int), .int .i64 (rankE l)]) ∧ Below w.heap.size w w'
theorem MaskPost.no {w w' : World} {l : List Int} (hr : risL l = false) (hb : Below w.heap.size w w') : MaskPost w l (.returned (.tuple #[.int .i64 0, .int .i64 1])) w' := by
  refine ⟨?_, hb⟩
  unfold mskV rankE; rw [hr]; rfl
theorem mskT_lt {m : List Nat} (hm : Reps m) {k : Nat} (hk : k < m.length) : mskL (m.take k) < 2 ^ m[k] := by
  refine mskL_lt (k := m[k]) _ (m.take k) rfl (hm.up.sublist (List.take_sublist _ _)) fun x hx => ?_
  obtain ⟨i, hi, rfl⟩ := List.mem_take_iff_getElem.1 hx
  exact List.pairwise_iff_getElem.1 hm.up i k (by omega) hk (by omega)

theorem pow16 {x : Nat} (hx : x < 16) : 2 ^ x ≤ 32768 := Nat.pow_le_pow_right (n := 2) (j := 15) (by omega) (by omega)
theorem shl_one {x : Nat} (hx : x < 16) : wrap64 ((2 : Int) ^ x) = ((2 ^ x : Nat) : Int) := by
  have h := pow16 hx
  have e : ((2 : Int) ^ x) = ((2 ^ x : Nat) : Int) := by simp
  rw [e]
  generalize 2 ^ x = p at h
  exact Go.IntWalk.wrap64_in _ (by omega)
theorem mask_step {x q : Nat} (hx : x < 16) (hq : q < 2 ^ x) : bits BinOp.or IntKind.i64 (q : Int) (wrap64 (2 ^ x)) = ((q + 2 ^ x : Nat) : Int) := by
  have h := pow16 hx
  rw [shl_one hx, i64_or_nat _ _ (by omega) (by omega), mask_or hq]

set_option maxHeartbeats 4000000 in
theorem omask_any (w : World) (B : Nat) (A : Option Addr) (c : Nat) (l : List Int) (hl : l.length ≤ 17592186044416) (hB : B ≤ w.heap.size) (hb : IntS w B A l) :
    Calls Try.prog 18 #[.slice A l.length c] w (MaskPost w l) := by
  have KR := hide (oright_any w B A c l hl hb)
  unfold RisPost at KR
  cases hr : risL l
  · have HF := hide (fun w' hb => MaskPost.no (w := w) (w' := w') hr hb)
    rw [hr] at KR
    clear hr
    go_enter Try.func18, Try.ntmps18
    go_wp2_with (first | ((with_reducible refine KR.out.mono ?_); rintro e w1 ⟨rfl, rfl⟩) | fail)
    go_ret2
    exact HF.out _ (Below.refl _ _)
  · obtain ⟨m, rfl, hm⟩ := right_reps hr
    have hm16 := hm.len
    have HF : Hid (∀ wr, Below w.heap.size w wr → MaskPost w (natI m) (.returned (.tuple #[.int .i64 (mskL m : Int), .int .i64 0])) wr) := hide fun wr hb1 => by
      refine ⟨?_, hb1⟩
      unfold mskV rankE
      rw [if_pos hr, if_pos hr, natL_natI]
    rw [hr] at KR
    have HI := hide hb
    have HM := hide hm
    obtain ⟨n, hn⟩ : ∃ n, n = m.length := ⟨_, rfl⟩
    have HN := hide hn
    rw [natI_len, ← hn] at KR ⊢
    rw [← hn] at hm16
    clear hn hr hb hl hm
    go_enter Try.func18, Try.ntmps18
    go_wp2_with (first | ((with_reducible refine KR.out.mono ?_); rintro e w1 ⟨rfl, rfl⟩) | fail)
    go_loopw [4, 12] (fun u v wr => ∃ k : Nat, k ≤ n ∧ u = .int .i64 (mskL (m.take k) : Int) ∧ v = .int .i64 (k : Int) ∧ wr = w) (fun _ v _ => n - (intOf v).toNat)
    case atStart => exact ⟨0, by omega, by rw [List.take_zero]; rfl, rfl, rfl⟩
    case round =>
      obtain ⟨k, hk, rfl, rfl, rfl⟩ := hrel
      by_cases hlt : k < n
      · have hkl : k < m.length := by rw [← HN.out]; exact hlt
        obtain ⟨b, off, rfl, hbB, hc⟩ := HI.out (by rw [natI_len]; omega)
        have h1 := hc k (by rw [natI_len]; exact hkl)
        rw [natI_at] at h1
        have hx16 := HM.out.lt m[k] (List.getElem_mem hkl)
        have hml := mskT_lt HM.out hkl
        have hnx := mskL_take (l := m) hkl
        obtain ⟨x, hx⟩ : ∃ x, x = m[k] := ⟨_, rfl⟩
        rw [← hx] at h1 hx16 hml hnx
        obtain ⟨q, hq⟩ : ∃ q, q = mskL (m.take k) := ⟨_, rfl⟩
        rw [← hq] at hml hnx ⊢
        have HNX := hide hnx
        have HML := hide hml
        clear hc hx hq hnx hml
        have hor := mask_step hx16 HML.out
        go_wp2
        go_roundw
        case rel => exact ⟨k + 1, by omega, by rw [HNX.out]; simp, by go_num, trivial⟩
        case measure => simp [intOf]; omega
      · obtain rfl : k = n := by omega
        have HG : Hid (MaskPost wr (natI m) (.returned (.tuple #[.int .i64 (mskL (m.take k) : Int), .int .i64 0])) wr) := hide (by rw [List.take_of_length_le (by rw [HN.out]; exact Nat.le_refl _)]; exact HF.out wr (Below.refl _ _))
        clear hlt
        go_wp2
        go_ret2
        exact HG.out
theorem mask_sum {x q : Nat} (hx : x < 16) (hq : q < 2 ^ x) : wrap64 ((q : Int) + 2 ^ x) = (q : Int) + 2 ^ x := by
  have h := pow16 hx
  have e : ((2 : Int) ^ x) = ((2 ^ x : Nat) : Int) := by simp
  rw [e]
  generalize 2 ^ x = p at h hq
  exact Go.IntWalk.wrap64_in _ (by omega)

set_option maxHeartbeats 4000000 in
theorem orefmask_any (w : World) (B : Nat) (A : Option Addr) (c : Nat) (l : List Int) (hl : l.length ≤ 17592186044416) (hB : B ≤ w.heap.size) (hb : IntS w B A l) :
    Calls Try.prog 19 #[.slice A l.length c] w (MaskPost w l) := by
  have KR := hide (reforight_any w B A c l hl hb)
  unfold RisQ at KR
  cases hr : risL l
  · have HF := hide (fun w' hb => MaskPost.no (w := w) (w' := w') hr hb)
    rw [hr] at KR
    clear hr
    go_enter Try.func19, Try.ntmps19
    go_wp2_with (first | ((with_reducible refine KR.out.mono ?_); rintro e w1 ⟨rfl, q, rfl⟩) | fail)
    go_ret2
    exact HF.out _ (below_drewN (Below.refl _ _) _)
  · obtain ⟨m, rfl, hm⟩ := right_reps hr
    have hm16 := hm.len
    have HF : Hid (∀ wr, Below w.heap.size w wr → MaskPost w (natI m) (.returned (.tuple #[.int .i64 (mskL m : Int), .int .i64 0])) wr) := hide fun wr hb1 => by
      refine ⟨?_, hb1⟩
      unfold mskV rankE
      rw [if_pos hr, if_pos hr, natL_natI]
    rw [hr] at KR
    have HI := hide hb
    have HM := hide hm
    obtain ⟨n, hn⟩ : ∃ n, n = m.length := ⟨_, rfl⟩
    have HN := hide hn
    rw [natI_len, ← hn] at KR ⊢
    rw [← hn] at hm16
    clear hn hr hb hl hm
    go_enter Try.func19, Try.ntmps19
    go_wp2_with (first | ((with_reducible refine KR.out.mono ?_); rintro e w1 ⟨rfl, hq0⟩; have HQ := hide hq0; clear hq0) | fail)
    have HB1 : Hid (Below w.heap.size w w1) := hide (by obtain ⟨q, hq0⟩ := HQ.out; rw [hq0]; exact below_drewN (Below.refl _ _) _)
    have HI1 : Hid (IntS w1 B A (natI m)) := hide (HI.out.below HB1.out hB)
    clear HQ HI KR
    go_loopw [4, 5] (fun u v wr => ∃ k : Nat, k ≤ n ∧ u = .int .i64 (mskL (m.take k) : Int) ∧ v = .int .i64 (k : Int) ∧ wr = w1) (fun _ v _ => n - (intOf v).toNat)
    case atStart => exact ⟨0, by omega, by rw [List.take_zero]; rfl, rfl, rfl⟩
    case round =>
      obtain ⟨k, hk, rfl, rfl, rfl⟩ := hrel
      by_cases hlt : k < n
      · have hkl : k < m.length := by rw [← HN.out]; exact hlt
        obtain ⟨b, off, rfl, hbB, hc⟩ := HI1.out (by rw [natI_len]; omega)
        have h1 := hc k (by rw [natI_len]; exact hkl)
        rw [natI_at] at h1
        have hx16 := HM.out.lt m[k] (List.getElem_mem hkl)
        have hml := mskT_lt HM.out hkl
        have hnx := mskL_take (l := m) hkl
        obtain ⟨x, hx⟩ : ∃ x, x = m[k] := ⟨_, rfl⟩
        rw [← hx] at h1 hx16 hml hnx
        obtain ⟨q, hq⟩ : ∃ q, q = mskL (m.take k) := ⟨_, rfl⟩
        rw [← hq] at hml hnx ⊢
        have HNX := hide hnx
        have HML := hide hml
        clear hc hx hq hnx hml
        have hor := shl_one hx16
        have hsum := mask_sum hx16 HML.out
        have wx : IntKind.u64.wrap (x : Int) = (x : Int) := Go.IntWalk.u64_in _ (by omega)
        go_wp2
        go_roundw
        case rel => exact ⟨k + 1, by omega, by rw [HNX.out]; simp; exact hsum, by go_num, trivial⟩
        case measure => simp [intOf]; omega
      · obtain rfl : k = n := by omega
        have HG : Hid (MaskPost w (natI m) (.returned (.tuple #[.int .i64 (mskL (m.take k) : Int), .int .i64 0])) wr) := hide (by rw [List.take_of_length_le (by rw [HN.out]; exact Nat.le_refl _)]; exact HF.out wr HB1.out)
        clear hlt
        go_wp2
        go_ret2
        exact HG.out
end Go.Proofs.Ytlpihjbnfdfbaaa
