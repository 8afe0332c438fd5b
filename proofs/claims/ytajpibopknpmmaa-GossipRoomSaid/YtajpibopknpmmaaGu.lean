/-
  A queue beside a row of the caller's own; numbers told down one by one.
-/
import Derived.Test.YtajpibopknpmmaaGt
namespace Go.Proofs.Ytajpibopknpmmaa
open Go.RowKit
set_option maxRecDepth 100000
set_option linter.unusedVariables false
set_option linter.unusedSimpArgs false

/-- a queue, and a row v that is none of its blocks. -/
def QueV (w : World) (q mb : Nat) (most : Int) (L : List (Int × Nw)) (v : Value) : Prop :=
  ∃ S, QueS w q mb most L S ∧ (∀ g, S g → g < w.heap.size ∧ g ≠ mb) ∧ ∀ g, v.ownBlock = some g → g < w.heap.size ∧ ¬ S g ∧ g ≠ q ∧ g ≠ mb
theorem QueV.t {w : World} {q mb : Nat} {most : Int} {L : List (Int × Nw)} {v : Value} (h : QueV w q mb most L v) : QueT w q mb most L := by
  obtain ⟨S, h1, h2, -⟩ := h
  exact ⟨S, h1, h2⟩
theorem QueV.below {w w' : World} {q mb : Nat} {most : Int} {L : List (Int × Nw)} {v : Value} (h : QueV w q mb most L v) (hb : Below w.heap.size w w') : QueV w' q mb most L v := by
  obtain ⟨S, h1, h2, h3⟩ := h
  exact ⟨S, h1.below hb (Nat.le_refl _), fun g hg => ⟨Nat.lt_of_lt_of_le (h2 g hg).1 hb.size, (h2 g hg).2⟩, fun g hg => ⟨Nat.lt_of_lt_of_le (h3 g hg).1 hb.size, (h3 g hg).2⟩⟩
theorem QueV.app {w w' : World} {q mb : Nat} {most : Int} {L : List (Int × Nw)} {v v' : Value} (h : QueV w q mb most L v) (hg : w.grownBy w' v.ownBlock) (hv : v'.ownBlock = v.ownBlock ∨ v'.ownBlock = some w.heap.size) (hl : ∀ g, v'.ownBlock = some g → g < w'.heap.size) : QueV w' q mb most L v' := by
  obtain ⟨S, h1, h2, h3⟩ := h
  have hlt := h1.lt
  refine ⟨S, h1.keep (fun i hi hil => hg.block i hil (fun e => ?_)) hg.size (fun _ hg => hg), fun g hgs => ⟨Nat.lt_of_lt_of_le (h2 g hgs).1 hg.size, (h2 g hgs).2⟩, fun g hgv => ?_⟩
  · obtain ⟨-, a1, a2, a3⟩ := h3 i e.symm
    rcases hi with rfl | rfl | hi
    · exact a2 rfl
    · exact a3 rfl
    · exact a1 hi
  · rcases hv with hv | hv
    · obtain ⟨a0, a1⟩ := h3 g (by rw [← hv]; exact hgv)
      exact ⟨hl g hgv, a1⟩
    · rw [hv] at hgv
      cases hgv
      exact ⟨hl _ hv, fun hS => Nat.lt_irrefl _ (h2 _ hS).1, by omega, by omega⟩
theorem putV_any (w : World) (q mb : Nat) (most : Int) (L : List (Int × Nw)) (v : Value) (k : Int) (d : List UInt8) (A : Option Addr) (c : Nat) (t : Int) (h : QueV w q mb most L v) (hk : -9223372036854775808 ≤ k ∧ k ≤ 9223372036854775807) (hd : Byt w w.heap.size A d) (hdl : d.length ≤ 140737488355328) :
    Calls Try.prog 12 #[.pointer (some ⟨q, 0, none⟩), .int .i64 k, .slice A d.length c, .int .i64 t] w fun e w' => e = .returned (.int .i64 (putE most L k d t)) ∧ QueV w' q mb most (putL most L k d t) v ∧ w.grownBy w' (some mb) := by
  obtain ⟨S, h1, h2, h3⟩ := h
  refine (putQ_any w q mb most L S k d A c t h1 h2 hk hd hdl).mono fun e w' hh => ?_
  obtain ⟨he, hq, hg⟩ := hh
  refine ⟨he, ⟨_, hq, fun g hgs => ?_, fun g hgv => ?_⟩, hg⟩
  · rcases hgs with hgs | hgs
    · exact ⟨Nat.lt_of_lt_of_le (h2 g hgs).1 hg.size, (h2 g hgs).2⟩
    · exact ⟨hgs.2, by have := h1.lt.2; omega⟩
  · obtain ⟨a0, a1, a2, a3⟩ := h3 g hgv
    refine ⟨Nat.lt_of_lt_of_le a0 hg.size, fun hS => ?_, a2, a3⟩
    rcases hS with hS | hS
    · exact a1 hS
    · omega
theorem pickV_any (w : World) (q mb : Nat) (most : Int) (L : List (Int × Nw)) (v : Value) (room : Int) (h : QueV w q mb most L v) (hlen : L.length ≤ 4096) (hroom : -9223372036854775808 ≤ room ∧ room ≤ 9223372036854775807) :
    Calls Try.prog 16 #[.pointer (some ⟨q, 0, none⟩), .int .i64 room] w fun e w' =>
      ∃ A c, e = .returned (.slice A (tellQ L room).1.length c) ∧ NwsS w' w.heap.size A (tellQ L room).1 ∧ QueV w' q mb most (tellQ L room).2 v ∧ w.grownBy w' (some mb) := by
  obtain ⟨S, h1, h2, h3⟩ := h
  refine (pickQ_any w q mb most L S room h1 hlen h2 hroom).mono fun e w' hh => ?_
  obtain ⟨u, he, hn, hq, hg⟩ := hh
  obtain ⟨A, c, ev, -, hs⟩ := hn.nws.slice
  exact ⟨A, c, by rw [he, ev], hs, ⟨S, hq, fun g hgs => ⟨Nat.lt_of_lt_of_le (h2 g hgs).1 hg.size, (h2 g hgs).2⟩, fun g hgv => ⟨Nat.lt_of_lt_of_le (h3 g hgv).1 hg.size, (h3 g hgv).2⟩⟩, hg⟩
/-- numbers told down. -/
def decL : List Nat → List Int → List Nat
  | lf, [] => lf
  | lf, k :: t => decL (lf.set k.toNat (lf.getD k.toNat 0 - 1)) t
theorem decL_snoc : ∀ (t : List Int) (lf : List Nat) (k : Int), decL lf (t ++ [k]) = (decL lf t).set k.toNat ((decL lf t).getD k.toNat 0 - 1)
  | [], lf, k => rfl
  | j :: t, lf, k => by
    show decL _ (t ++ [k]) = _
    rw [decL_snoc t]; rfl
theorem decL_len : ∀ (t : List Int) (lf : List Nat), (decL lf t).length = lf.length
  | [], lf => rfl
  | j :: t, lf => by show (decL _ t).length = _; rw [decL_len t, List.length_set]
theorem getD_set (l : List Nat) (i j n : Nat) : (l.set i n).getD j 0 = if i = j ∧ j < l.length then n else l.getD j 0 := by
  rw [List.getD_eq_getElem?_getD, List.getD_eq_getElem?_getD, List.getElem?_set]
  by_cases e : i = j
  · subst e
    by_cases h : i < l.length
    · rw [if_pos rfl, if_pos h, if_pos ⟨rfl, h⟩]; rfl
    · rw [if_pos rfl, if_neg h, if_neg (fun hh => h hh.2), List.getElem?_eq_none (by omega)]
  · rw [if_neg e, if_neg (fun hh => e hh.1)]
theorem decL_get : ∀ (t : List Int) (lf : List Nat) (i : Nat), t.Nodup → (∀ k ∈ t, 0 ≤ k) → (decL lf t).getD i 0 = if (i : Int) ∈ t then lf.getD i 0 - 1 else lf.getD i 0
  | [], lf, i, _, _ => by simp [decL]
  | k :: t, lf, i, hnd, h0 => by
    rw [List.nodup_cons] at hnd
    show (decL _ t).getD i 0 = _
    rw [decL_get t _ i hnd.2 (fun j hj => h0 j (List.mem_cons_of_mem _ hj)), getD_set]
    have hk := h0 k List.mem_cons_self
    by_cases e : (i : Int) = k
    · have e2 : k.toNat = i := by omega
      have n1 : (i : Int) ∉ t := by rw [e]; exact hnd.1
      have n2 : (i : Int) ∈ k :: t := by rw [e]; exact List.mem_cons_self
      rw [if_neg n1, if_pos n2, e2]
      by_cases h : i < lf.length
      · rw [if_pos ⟨rfl, h⟩]
      · rw [if_neg (fun hh => h hh.2), List.getD_eq_getElem?_getD, List.getElem?_eq_none (by omega)]; rfl
    · have e2 : ¬ (k.toNat = i ∧ i < lf.length) := fun hh => e (by omega)
      rw [if_neg e2]
      by_cases h : (i : Int) ∈ t
      · have n2 : (i : Int) ∈ k :: t := List.mem_cons_of_mem _ h
        rw [if_pos h, if_pos n2]
      · have n2 : (i : Int) ∉ k :: t := by rw [List.mem_cons]; exact fun hh => hh.elim e h
        rw [if_neg h, if_neg n2]
theorem decL_all {lf : List Nat} {t : List Int} (hnd : t.Nodup) (hm : ∀ k, k ∈ t ↔ 0 ≤ k ∧ 0 < lf.getD k.toNat 0) : decL lf t = lf.map (· - 1) := by
  apply List.ext_getElem
  · rw [decL_len, List.length_map]
  · intro i h1 h2
    have h3 : i < lf.length := by rw [decL_len] at h1; exact h1
    have := decL_get t lf i hnd (fun k hk => ((hm k).1 hk).1)
    rw [List.getD_eq_getElem?_getD, List.getElem?_eq_getElem h1, List.getD_eq_getElem?_getD, List.getElem?_eq_getElem h3] at this
    simp only [Option.getD_some] at this
    rw [this, List.getElem_map]
    have hm2 := hm (i : Int)
    rw [Int.toNat_natCast, List.getD_eq_getElem?_getD, List.getElem?_eq_getElem h3, Option.getD_some] at hm2
    by_cases e : (i : Int) ∈ t
    · rw [if_pos e]
    · rw [if_neg e]
      have : ¬ 0 < lf[i] := fun hh => e (hm2.2 ⟨by omega, hh⟩)
      omega
theorem take_not_mem {ks : List Int} (h : ks.Nodup) {i : Nat} (hi : i < ks.length) : ks[i] ∉ ks.take i := by
  have h2 : (ks.take (i + 1)).Nodup := h.sublist (List.take_sublist _ _)
  rw [List.take_succ_eq_append_getElem hi, List.nodup_append] at h2
  exact fun hh => h2.2.2 _ hh _ (by simp) rfl
theorem told_at {lf : List Nat} {ks : List Int} (hnd : ks.Nodup) (hm : ∀ k, k ∈ ks ↔ 0 ≤ k ∧ 0 < lf.getD k.toNat 0) {i : Nat} (hi : i < ks.length) :
    ∃ K x : Nat, ks[i] = (K : Int) ∧ K < lf.length ∧ lf.getD K 0 = x + 1 ∧ (decL lf (ks.take i)).getD K 0 = x + 1 ∧ decL lf (ks.take (i + 1)) = (decL lf (ks.take i)).set K x := by
  have hmem := (hm ks[i]).1 (List.getElem_mem hi)
  obtain ⟨K, hK⟩ : ∃ K : Nat, ks[i] = (K : Int) := ⟨ks[i].toNat, by omega⟩
  have hKn : ks[i].toNat = K := by omega
  rw [hKn] at hmem
  have hKj : K < lf.length := by
    rcases Nat.lt_or_ge K lf.length with h | h
    · exact h
    · rw [List.getD_eq_getElem?_getD, List.getElem?_eq_none h] at hmem
      exact absurd hmem.2 (Nat.lt_irrefl 0)
  have hdg := decL_get (ks.take i) lf K (hnd.sublist (List.take_sublist _ _)) (fun k hk => ((hm k).1 (List.mem_of_mem_take hk)).1)
  have hnot : (K : Int) ∉ ks.take i := by rw [← hK]; exact take_not_mem hnd hi
  rw [if_neg hnot] at hdg
  refine ⟨K, lf.getD K 0 - 1, hK, hKj, by have := hmem.2; omega, by rw [hdg]; have := hmem.2; omega, ?_⟩
  rw [List.take_succ_eq_append_getElem hi, decL_snoc, hKn, hdg]
theorem few_getD {lf : List Nat} (h : ∀ k ∈ lf, k ≤ 12) (t K : Nat) : (lf.map (· - t)).getD K 0 ≤ 12 := by
  rw [List.getD_eq_getElem?_getD, List.getElem?_map]
  cases e : lf[K]? with
  | none => simp
  | some k =>
    have := h k (List.mem_of_getElem? e)
    simp; omega
theorem wr_dec (x : Nat) (h : x ≤ 100000) : IntKind.i64.wrap (((x + 1 : Nat) : Int) - 1) = (x : Int) := by
  rw [IntKind.wrap_i64]; omega
theorem sub_map (lf : List Nat) (t : Nat) : (lf.map (· - t)).map (· - 1) = lf.map (· - (t + 1)) := by
  rw [List.map_map]
  refine List.map_congr_left fun k _ => ?_
  show k - t - 1 = k - (t + 1)
  omega
theorem wr64_small (n : Nat) (h : n ≤ 100000) : wrap64 (n : Int) = (n : Int) := by unfold wrap64; omega
theorem zeros14 : ∀ {lf : List Nat}, (∀ k ∈ lf, k ≤ 12) → lf.map (· - 14) = List.replicate lf.length 0
  | [], _ => rfl
  | k :: t, h => by
    have h1 := h k List.mem_cons_self
    have h2 := zeros14 (lf := t) (fun j hj => h j (List.mem_cons_of_mem _ hj))
    rw [List.map_cons, List.length_cons, List.replicate_succ, h2]
    congr 1
    omega
theorem waitK_zeros (j : Nat) : waitK (List.replicate j 0) = [] := by
  unfold waitK
  rw [List.filter_eq_nil_iff.2, List.map_nil]
  intro i _ h
  rw [decide_eq_true_eq, List.getD_eq_getElem?_getD, List.getElem?_replicate] at h
  split at h
  · exact Nat.lt_irrefl 0 h
  · exact Nat.lt_irrefl 0 h
theorem StT.none {L : List (Int × Nw)} {ns : List Nat} {j : Nat} (h : StT L ns (List.replicate j 0)) : L = [] := by
  have := h.keys.length_eq
  rw [waitK_zeros, List.length_map] at this
  exact List.eq_nil_of_length_eq_zero this
theorem make_u8n (w : World) (n : Nat) (h : n ≤ 140737488355328) :
    (Instr.makeSlice 30 (.int .i64 (n : Int)) (.int .i64 (n : Int))).run Try.prog w = .ok (.slice (some ⟨w.heap.size, 0, none⟩) n n) (w.alloc (.cells (madeCells #[.int .u8 0] n) 5)) := by
  obtain ⟨i, hi, hz, hs, hb⟩ := info_parts info_u8
  have := run_make (P := Try.prog) w 30 5 i (.int .u8 0) Try.underlying30 hi hz .i64 .i64 (n : Int) (n : Int) (by omega) (by omega) (by rw [hb]; omega) (by omega)
  rw [this, hs]
  simp [Value.cells]
theorem zeros_byt (w : World) (n : Nat) : Byt (w.alloc (.cells (madeCells #[.int .u8 0] n) 5)) (w.heap.size + 1) (some ⟨w.heap.size, 0, none⟩) (List.replicate n 0) :=
  Byt.lit w (List.replicate n 0) _ 5 (0, 0) (by
    have := toList_madeCells_one (.int .u8 0) n
    have h2 : (List.replicate n (0 : UInt8)).map byteV = List.replicate n (.int .u8 0) := by rw [List.map_replicate]; rfl
    rw [h2, ← this])
end Go.Proofs.Ytajpibopknpmmaa
