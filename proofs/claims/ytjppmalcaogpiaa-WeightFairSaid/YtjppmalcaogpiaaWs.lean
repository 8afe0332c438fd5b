import Derived.Test.YtjppmalcaogpiaaWv
namespace Go.Proofs.Ytjppmalcaogpiaa
open Go.RowKit
set_option maxRecDepth 100000
attribute [local go_sem] ord_none_lt ord_none_gt ord_none_eq ord_none_ne ord_lt_lt ord_lt_gt ord_lt_eq ord_lt_ne ord_gt_lt ord_gt_gt ord_gt_eq ord_gt_ne ord_eq_lt ord_eq_gt ord_eq_eq ord_eq_ne store_fl unary_negF
/-- how often each one of the first m numbers stands in a list. -/
def cntL (m : Nat) (ts : List Nat) : List Nat := (List.range m).map (fun i => ts.count i)
theorem cntL_len (m : Nat) (ts : List Nat) : (cntL m ts).length = m := by simp [cntL]
theorem cntL_getD {m : Nat} (ts : List Nat) {i : Nat} (h : i < m) : (cntL m ts).getD i 0 = ts.count i := by
  rw [List.getD_eq_getElem?_getD, List.getElem?_eq_getElem (by rw [cntL_len]; exact h)]; simp [cntL]
theorem cntL_nil (m : Nat) : (cntL m []).map inV = List.replicate m (.int .i64 0) := by
  apply List.ext_getElem?
  intro i
  by_cases h : i < m <;> simp [cntL, inV, h]
theorem cntL_snoc (m : Nat) (ts : List Nat) (x : Nat) : cntL m (ts ++ [x]) = (cntL m ts).set x (ts.count x + 1) := by
  apply List.ext_getElem?
  intro i
  by_cases h : i < m
  · by_cases hx : x = i
    · subst hx
      rw [List.getElem?_set_self (by rw [cntL_len]; exact h)]
      simp [cntL, h]
    · rw [List.getElem?_set_ne hx]
      simp [cntL, h, List.count_append, List.count_singleton, hx]
  · have h1 : (cntL m (ts ++ [x])).length ≤ i := by rw [cntL_len]; omega
    have h2 : ((cntL m ts).set x (ts.count x + 1)).length ≤ i := by rw [List.length_set, cntL_len]; omega
    rw [List.getElem?_eq_none h1, List.getElem?_eq_none h2]
theorem map_inV {l : List Nat} {i : Nat} (h : i < (l.map inV).length) : (l.map inV)[i] = .int .i64 (l.getD i 0 : Nat) := by
  rw [List.getElem_map, List.getD_eq_getElem?_getD, List.getElem?_eq_getElem (by simpa using h)]; rfl
/-- how often each one comes. -/
def shareF (l : List Nat) (n : Int) : List Nat := if turnsF l n = [] then [] else cntL l.length (turnsF l n)

theorem turnsF_mem {l : List Nat} {n : Int} : ∀ x ∈ turnsF l n, x < l.length := by
  intro x hx
  unfold turnsF at hx
  split at hx
  · cases hx
  · next h =>
    have hb : bestF l ≠ 0 := by omega
    obtain ⟨j, hj, _⟩ := best_part hb
    have := stT_mem (partsL l) (by omega) _ x (List.mem_of_mem_take hx)
    rwa [partsL_len] at this
theorem turnsF_len {l : List Nat} {n : Int} (h : turnsF l n ≠ []) : (turnsF l n).length = n.toNat ∧ 1 ≤ n ∧ n ≤ 4096 ∧ l.length ≤ 32 ∧ bestF l ≠ 0 := by
  by_cases hc : n < 1 ∨ 4096 < n ∨ 32 < l.length ∨ bestF l = 0
  · exact absurd (turnsF_nil hc) h
  · have hb : bestF l ≠ 0 := by omega
    obtain ⟨j, hj, hjp⟩ := best_part hb
    have e : turnsF l n = turnsP (partsL l) n.toNat := if_neg hc
    exact ⟨by rw [e]; exact turnsP_len hj hjp _, by omega, by omega, by omega, hb⟩
theorem turnsF_le (l : List Nat) (n : Int) : (turnsF l n).length ≤ 4096 := by
  by_cases h : turnsF l n = []
  · rw [h]; simp
  · obtain ⟨h1, _, h3, _⟩ := turnsF_len h; omega

/-- what the rows hold when k of the turns have been counted. -/
structure SH (w wr : World) (gs m : Nat) (vt : Value) (ts : List Nat) (k : Nat) : Prop where
  bel : Below w.heap.size w wr
  share : OwnR wr w.heap.size 3 (.slice (some ⟨gs, 0, none⟩) m m) ((cntL m (ts.take k)).map inV)
  turns : OwnR wr w.heap.size 3 vt (ts.map inV)
  ne : vt.ownBlock ≠ some gs
theorem SH.step {w wr : World} {gs m : Nat} {vt : Value} {ts : List Nat} {k x : Nat} (h : SH w wr gs m vt ts k) (hk : k < ts.length) (hx : x = ts[k]) :
    SH w (wr.setCell ⟨gs, x, none⟩ (.int .i64 (((ts.take k).count x + 1 : Nat) : Int))) gs m vt ts (k + 1) := by
  obtain ⟨s1, s2⟩ := h.share.set x (.int .i64 (((ts.take k).count x + 1 : Nat) : Int))
  have hg := h.share.at gs rfl
  refine ⟨h.bel.setCell hg.1 _, ?_, h.turns.kept s2 (.inr h.ne), h.ne⟩
  rw [List.take_succ_eq_append_getElem hk, ← hx, cntL_snoc, List.map_set]
  exact s1
theorem SH.reads {w wr : World} {gs m k T c : Nat} {A : Option Addr} {ts : List Nat} (h : SH w wr gs m (.slice A T c) ts k) (hk : k < ts.length) (hm : ∀ x ∈ ts, x < m) :
    ∃ gt x : Nat, A = some ⟨gt, 0, none⟩ ∧ wr.cell? ⟨gt, k, none⟩ = some (.int .i64 (x : Int)) ∧ x < m ∧ x = ts[k] ∧ wr.cell? ⟨gs, x, none⟩ = some (.int .i64 (((ts.take k).count x : Nat) : Int)) ∧ wr.frozen? ⟨gs, x, none⟩ = false := by
  obtain ⟨gt, c', hv, _⟩ := h.turns.pos (by rw [List.length_map]; omega)
  obtain ⟨rfl, rfl, rfl⟩ := Value.slice.inj hv
  have hx : ts[k] < m := hm _ (List.getElem_mem hk)
  refine ⟨gt, ts[k], rfl, ?_, hx, rfl, ?_, h.share.frozen _⟩
  · rw [h.turns.cell k (by rw [List.length_map]; omega), List.getElem_map]; rfl
  · rw [h.share.cell ts[k] (by rw [List.length_map, cntL_len]; exact hx), map_inV, cntL_getD _ hx]
theorem SH.start {w w1 : World} {m : Nat} {vt : Value} {ts : List Nat} (hm : m ≤ 32) (hb : Below w.heap.size w w1) (ht : OwnR w1 w.heap.size 3 vt (ts.map inV)) :
    SH w (w1.alloc (.cells (madeCells #[.int .i64 0] m) 3)) w1.heap.size m vt ts 0 := by
  have hs := hb.size
  refine ⟨hb.alloc hs _, ?_, ht.alloc _, fun h => by have := (ht.at _ h).2; omega⟩
  have hl := World.ownsRow_lit (e := 3) (size := 1) (base := w.heap.size) w1 (madeCells #[Value.int .i64 0] m) m hs (by unfold maxLen; omega) (by rw [size_madeCells]; omega)
  rw [List.take_zero, cntL_nil]
  unfold OwnR
  rw [List.length_replicate, ← toList_madeCells_one]
  exact hl

set_option maxHeartbeats 4000000 in
theorem share_any (A : Option Addr) (c : Nat) (l : List Nat) (n : Int) (B : Nat) (w : World) (hl : l.length ≤ 140737488355328) (hn63 : -9223372036854775808 ≤ n ∧ n ≤ 9223372036854775807) (hB : B ≤ w.heap.size) (hb : FlS w B A l) :
    Calls Try.prog 24 #[.slice A l.length c, .int .i64 n] w (TurnsPost w (shareF l n)) := by
  have CT := hide (turns_any A c l n B w hl hn63 hB hb)
  obtain ⟨m, hm⟩ : ∃ m, m = l.length := ⟨_, rfl⟩
  obtain ⟨ts, hts⟩ : ∃ ts, ts = turnsF l n := ⟨_, rfl⟩
  have hmem : Hid (∀ x ∈ ts, x < m) := by rw [hts, hm]; exact turnsF_mem
  have hle : ts.length ≤ 4096 := by rw [hts]; exact turnsF_le l n
  have HSH : Hid (shareF l n = if ts = [] then [] else cntL m ts) := by rw [hts, hm]; exact rfl
  have h32 : ts ≠ [] → m ≤ 32 := fun h => by rw [hm]; rw [hts] at h; exact (turnsF_len h).2.2.2.1
  have H32 := hide h32
  rw [← hts, ← hm] at CT
  rw [← hm]
  obtain ⟨T, hT⟩ : ∃ T, T = ts.length := ⟨_, rfl⟩
  rw [← hT] at hle
  have HTL := hide hT
  clear hm hts hb h32 hT hl hn63
  go_enter Try.func24, Try.ntmps24
  go_wp2_with fail
  refine CT.out.mono ?_
  rintro e w1 ⟨v, rfl, ho, hbel⟩
  obtain ⟨At, ct, hv, hct⟩ := ho.shape
  rw [List.length_map, ← HTL.out] at hv
  subst hv
  have HO := hide ho
  have HB := hide hbel
  clear ho hbel hct CT
  by_cases hz : T = 0
  · have HF : Hid (TurnsPost w (shareF l n) (.returned (.slice none 0 0)) w1) := by
      refine hide ?_
      rw [HSH.out, if_pos (List.eq_nil_of_length_eq_zero (by rw [← HTL.out]; exact hz))]
      exact ⟨_, rfl, OwnR.nil _ _ _, HB.out⟩
    subst hz
    go_wp2
    go_ret
    exact HF.out
  · have hne : ts ≠ [] := fun h => hz (by rw [HTL.out, h]; rfl)
    have hm32 : m ≤ 32 := H32.out hne
    obtain ⟨i1, hj, hj0, hj1, hj2⟩ := info_parts info_in
    have hmk : (Instr.makeSlice 31 (.int .i64 (m : Int)) (.int .i64 (m : Int))).run Try.prog w1 = .ok (.slice (some ⟨w1.heap.size, 0, none⟩) m m) (w1.alloc (.cells (madeCells #[.int .i64 0] m) 3)) := by
      have h := run_make (P := Try.prog) w1 31 3 i1 _ Try.underlying31 hj hj0 .i64 .i64 m m (by omega) (by omega) (by rw [hj2]; omega) (by omega)
      simp only [Int.toNat_natCast, hj1, Nat.mul_one] at h
      exact h
    have HS := hide (SH.start hm32 HB.out HO.out)
    have HFIN : Hid (∀ wr, SH w wr w1.heap.size m (.slice At T ct) ts T → TurnsPost w (shareF l n) (.returned (.slice (some ⟨w1.heap.size, 0, none⟩) m m)) wr) := by
      refine hide fun wr h => ?_
      rw [HSH.out, if_neg hne]
      have h2 := h.share
      rw [List.take_of_length_le (by rw [HTL.out]; exact Nat.le_refl _)] at h2
      exact ⟨_, rfl, h2, h.bel⟩
    have hz2 : ((T : Int) == 0) = false := by simp; omega
    clear hz hne hj hj0 hj1 hj2 HO HB
    go_wp2
    go_loopw [20] (fun v wr => ∃ k : Nat, k ≤ T ∧ v = .int .i64 (k : Int) ∧ Hid (SH w wr w1.heap.size m (.slice At T ct) ts k)) (fun v _ => T - (intOf v).toNat)
    case atStart => exact ⟨0, by omega, rfl, HS⟩
    case round =>
      obtain ⟨k, hk, rfl, hsh⟩ := hrel
      by_cases hlt : k < T
      · have hlt' : k < ts.length := by rw [← HTL.out]; exact hlt
        obtain ⟨gt, x, rfl, hc1, hxm, hx, hc2, hf2⟩ := hsh.out.reads hlt' hmem.out
        have HN := hide (hsh.out.step hlt' hx)
        obtain ⟨q, hq⟩ : ∃ q, q = (ts.take k).count x := ⟨_, rfl⟩
        have hq2 : q ≤ 4096 := by
          have h1 := List.count_le_length (a := x) (l := ts.take k)
          rw [List.length_take] at h1; omega
        rw [← hq] at hc2 HN
        have hcast : ((q + 1 : Nat) : Int) = (q : Int) + 1 := by omega
        rw [hcast] at HN
        clear hq hx hlt' hcast hsh
        go_wp2
        go_roundw
        case rel => exact ⟨k + 1, by omega, by go_num, HN⟩
        case measure => simp [intOf]; omega
      · obtain rfl : k = T := by omega
        have HF := hide (HFIN.out _ hsh.out)
        clear hlt
        go_wp2
        go_ret
        exact HF.out

set_option maxHeartbeats 4000000 in
theorem refshare_any (A : Option Addr) (c : Nat) (l : List Nat) (n : Int) (B : Nat) (w : World) (hl : l.length ≤ 140737488355328) (hn63 : -9223372036854775808 ≤ n ∧ n ≤ 9223372036854775807) (hB : B ≤ w.heap.size) (hb : FlS w B A l) :
    Calls Try.prog 27 #[.slice A l.length c, .int .i64 n] w (TurnsPost w (shareF l n)) := by
  have CT := hide (refturns_any A c l n B w hl hn63 hB hb)
  obtain ⟨m, hm⟩ : ∃ m, m = l.length := ⟨_, rfl⟩
  obtain ⟨ts, hts⟩ : ∃ ts, ts = turnsF l n := ⟨_, rfl⟩
  have hmem : Hid (∀ x ∈ ts, x < m) := by rw [hts, hm]; exact turnsF_mem
  have hle : ts.length ≤ 4096 := by rw [hts]; exact turnsF_le l n
  have HSH : Hid (shareF l n = if ts = [] then [] else cntL m ts) := by rw [hts, hm]; exact rfl
  have h32 : ts ≠ [] → m ≤ 32 := fun h => by rw [hm]; rw [hts] at h; exact (turnsF_len h).2.2.2.1
  have H32 := hide h32
  rw [← hts, ← hm] at CT
  rw [← hm]
  obtain ⟨T, hT⟩ : ∃ T, T = ts.length := ⟨_, rfl⟩
  rw [← hT] at hle
  have HTL := hide hT
  clear hm hts hb h32 hT hl hn63
  go_enter Try.func27, Try.ntmps27
  go_wp2_with fail
  refine CT.out.mono ?_
  rintro e w1 ⟨v, rfl, ho, hbel⟩
  obtain ⟨At, ct, hv, hct⟩ := ho.shape
  rw [List.length_map, ← HTL.out] at hv
  subst hv
  have HO := hide ho
  have HB := hide hbel
  clear ho hbel hct CT
  by_cases hz : T = 0
  · have HF : Hid (TurnsPost w (shareF l n) (.returned (.slice none 0 0)) w1) := by
      refine hide ?_
      rw [HSH.out, if_pos (List.eq_nil_of_length_eq_zero (by rw [← HTL.out]; exact hz))]
      exact ⟨_, rfl, OwnR.nil _ _ _, HB.out⟩
    subst hz
    go_wp2
    go_ret
    exact HF.out
  · have hne : ts ≠ [] := fun h => hz (by rw [HTL.out, h]; rfl)
    have hm32 : m ≤ 32 := H32.out hne
    obtain ⟨i1, hj, hj0, hj1, hj2⟩ := info_parts info_in
    have hmk : (Instr.makeSlice 31 (.int .i64 (m : Int)) (.int .i64 (m : Int))).run Try.prog w1 = .ok (.slice (some ⟨w1.heap.size, 0, none⟩) m m) (w1.alloc (.cells (madeCells #[.int .i64 0] m) 3)) := by
      have h := run_make (P := Try.prog) w1 31 3 i1 _ Try.underlying31 hj hj0 .i64 .i64 m m (by omega) (by omega) (by rw [hj2]; omega) (by omega)
      simp only [Int.toNat_natCast, hj1, Nat.mul_one] at h
      exact h
    have HS := hide (SH.start hm32 HB.out HO.out)
    have HFIN : Hid (∀ wr, SH w wr w1.heap.size m (.slice At T ct) ts T → TurnsPost w (shareF l n) (.returned (.slice (some ⟨w1.heap.size, 0, none⟩) m m)) wr) := by
      refine hide fun wr h => ?_
      rw [HSH.out, if_neg hne]
      have h2 := h.share
      rw [List.take_of_length_le (by rw [HTL.out]; exact Nat.le_refl _)] at h2
      exact ⟨_, rfl, h2, h.bel⟩
    have hz2 : ((T : Int) == 0) = false := by simp; omega
    clear hz hne hj hj0 hj1 hj2 HO HB
    go_wp2
    go_loopw [7] (fun v wr => ∃ k : Nat, k ≤ T ∧ v = .int .i64 (k : Int) ∧ Hid (SH w wr w1.heap.size m (.slice At T ct) ts k)) (fun v _ => T - (intOf v).toNat)
    case atStart => exact ⟨0, by omega, rfl, HS⟩
    case round =>
      obtain ⟨k, hk, rfl, hsh⟩ := hrel
      by_cases hlt : k < T
      · have hlt' : k < ts.length := by rw [← HTL.out]; exact hlt
        obtain ⟨gt, x, rfl, hc1, hxm, hx, hc2, hf2⟩ := hsh.out.reads hlt' hmem.out
        have HN := hide (hsh.out.step hlt' hx)
        obtain ⟨q, hq⟩ : ∃ q, q = (ts.take k).count x := ⟨_, rfl⟩
        have hq2 : q ≤ 4096 := by
          have h1 := List.count_le_length (a := x) (l := ts.take k)
          rw [List.length_take] at h1; omega
        rw [← hq] at hc2 HN
        have hcast : ((q + 1 : Nat) : Int) = (q : Int) + 1 := by omega
        rw [hcast] at HN
        clear hq hx hlt' hcast hsh
        go_wp2
        go_roundw
        case rel => exact ⟨k + 1, by omega, by go_num, HN⟩
        case measure => simp [intOf]; omega
      · obtain rfl : k = T := by omega
        have HF := hide (HFIN.out _ hsh.out)
        clear hlt
        go_wp2
        go_ret
        exact HF.out
end Go.Proofs.Ytjppmalcaogpiaa
