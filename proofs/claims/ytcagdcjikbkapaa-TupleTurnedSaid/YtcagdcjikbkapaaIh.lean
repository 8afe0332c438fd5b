/-
  The walks of header.headSum; copies into a row of bytes.
-/
import Derived.Test.YtcagdcjikbkapaaIr
import Derived.Test.YtcagdcjikbkapaaIl
import Derived.Test.YtcagdcjikbkapaaSumsA
import Derived.Laws.CopyOwn
namespace Go.Proofs.Ytcagdcjikbkapaa
open Go.RowKit
set_option maxRecDepth 100000
set_option linter.unusedVariables false
set_option linter.unusedSimpArgs false

theorem splice_map {α β : Type} (f : α → β) (L : List α) (off : Nat) (cs : List α) : (splice L off cs).map f = splice (L.map f) off (cs.map f) := by simp [splice, List.map_take, List.map_drop]
theorem Byt.srcs {w : World} {K : Nat} {sp : Option Addr} {l : List UInt8} (h : Byt w K sp l) (hp : 0 < l.length) : ∃ ad, sp = some ad ∧ ∀ j v, (l.map byteV)[j]? = some v → w.cell? (ad.add j) = some v := by
  obtain ⟨b, off, e, _, hc⟩ := h hp
  refine ⟨_, e, fun j v hv => ?_⟩
  obtain ⟨hj, hv⟩ := List.getElem?_eq_some_iff.1 hv
  rw [add_none, hc j (by simpa using hj), ← hv]
  simp [byteV]
theorem setRow_grown (w : World) (g : Nat) (cs : Array Value) : w.grownBy (w.setRow g cs) (some g) :=
  ⟨rfl, rfl, rfl, by simp [World.setRow], fun k hk hne => setRow_other w g k cs (fun e => hne (by rw [e]))⟩

/-- a copy of bytes into a row of bytes, where all of them find room. -/
theorem run_copy_bytes (w : World) (ty g off : Nat) (dp : Option Addr) (dLen dCap : Nat) (sp : Option Addr) (sCap : Nat) (B l : List UInt8) (K : Nat) (t : TypeId) (hdp : 0 < l.length → dp = some ⟨g, off, none⟩) (hg : w.heap[g]? = some (.cells (B.map byteV).toArray t (0, 0))) (hb : Byt w K sp l) (hd : l.length ≤ dLen) (hfit : off + l.length ≤ B.length) :
    ∃ w', (Builtin.copy_ #[25, 25] ty #[.slice dp dLen dCap, .slice sp l.length sCap]).run Try.prog w = .ok (goInt l.length) w' ∧ w'.heap[g]? = some (.cells ((splice B off l).map byteV).toArray t (0, 0)) ∧ w.grownBy w' (some g) := by
  have hn : Nat.min l.length dLen = l.length := Nat.min_eq_left hd
  by_cases h0 : l.length = 0
  · obtain rfl : l = [] := List.eq_nil_of_length_eq_zero h0
    refine ⟨w, run_copy_none (P := Try.prog) w 25 25 ty 5 dp sp dLen dCap 0 sCap Try.underlying25 (by kernel_rfl) (Nat.zero_min ..), ?_, World.grownBy.refl w _⟩
    rw [hg]; simp [splice]
  · obtain rfl := hdp (by omega)
    obtain ⟨ad, rfl, hs⟩ := hb.srcs (by omega)
    refine ⟨_, ?_, setRow_heap w g _ _ t _ hg, setRow_grown w g _⟩
    have h := run_copy_row (P := Try.prog) w 25 25 ty 5 g off dLen dCap ad l.length sCap (B.map byteV).toArray t (l.map byteV) Try.underlying25 (by kernel_rfl) hg (by rw [List.length_map, hn]) hs (by simpa using hfit) (byteV_one _)
    rw [List.length_map] at h
    rw [h, splice_map]
    simp [splice]
theorem wpList_copy_bytes {w : World} {ops : Array Oper} {rest : List Oper} {o : Oper} {a : Act} {Q : Exit → Act → World → Prop} (hgd : o.guard = none) (d s : Operand) (ho : o.op = .call { callee := .builtin .copy, args := #[d, s], argTypes := #[25, 25] })
    (g off dLen dCap : Nat) (sp : Option Addr) (sLen sCap : Nat) (B l : List UInt8) (K : Nat) (t : TypeId) (hd : a.eval d = .slice (some ⟨g, off, none⟩) dLen dCap) (hs : a.eval s = .slice sp sLen sCap) (hll : l.length = sLen)
    (hg : w.heap[g]? = some (.cells (B.map byteV).toArray t (0, 0))) (hb : Byt w K sp l) (hdl : sLen ≤ dLen) (hfit : off + sLen ≤ B.length)
    (h : ∀ w', w'.heap[g]? = some (.cells ((splice B off l).map byteV).toArray t (0, 0)) → w.grownBy w' (some g) → wpList Try.prog ops Q rest (a.put o.dst (goInt sLen)) w') : wpList Try.prog ops Q (o :: rest) a w := by
  subst hll
  obtain ⟨w', hr, h1, h2⟩ := run_copy_bytes w o.type g off _ dLen dCap sp sCap B l K t (fun _ => rfl) hg hb hdl hfit
  refine wpList_plain hgd fun K hK => ?_
  unfold Oper.wp
  simp [execOp, ho, resolve, invoke, builtin, hd, hs, hr, Result.andThen]
  exact hK _ _ (h w' h1 h2)
theorem step_copy_bytes {ops : Array Oper} {o : Oper} {a : Act} {w : World} {K' : Act → World → Prop} {Q : Exit → Act → World → Prop} {E : Prop} (hgd : o.guard = none) (d s : Operand) (ho : o.op = .call { callee := .builtin .copy, args := #[d, s], argTypes := #[25, 25] })
    (g off : Nat) (dp : Option Addr) (dLen dCap : Nat) (sp : Option Addr) (sLen sCap : Nat) (B l : List UInt8) (K : Nat) (t : TypeId) (hd : a.eval d = .slice dp dLen dCap) (hdp : 0 < sLen → dp = some ⟨g, off, none⟩) (hs : a.eval s = .slice sp sLen sCap) (hll : l.length = sLen)
    (hg : w.heap[g]? = some (.cells (B.map byteV).toArray t (0, 0))) (hb : Byt w K sp l) (hdl : sLen ≤ dLen) (hfit : off + sLen ≤ B.length)
    (h : ∀ w', w'.heap[g]? = some (.cells ((splice B off l).map byteV).toArray t (0, 0)) → w.grownBy w' (some g) → K' (a.put o.dst (goInt sLen)) w') : if Region.wanted o (yielded ops a.tmps) = true then Oper.wp Try.prog o a w K' Q else E := by
  have hw : Region.wanted o (yielded ops a.tmps) = true := by simp [Region.wanted, hgd]
  rw [if_pos hw]
  subst hll
  obtain ⟨w', hr, h1, h2⟩ := run_copy_bytes w o.type g off dp dLen dCap sp sCap B l K t hdp hg hb hdl hfit
  unfold Oper.wp
  simp [execOp, ho, resolve, invoke, builtin, hd, hs, hr, Result.andThen]
  exact h w' h1 h2

/-- the sum that a head has to have. -/
def headS (l : List UInt8) : Nat := 65535 - addS (addS 0 (l.take 10)) (l.drop 12)
theorem headS_le (l : List UInt8) : headS l ≤ 65535 := by unfold headS; omega

set_option maxHeartbeats 1000000 in
theorem headsum_any (w : World) (g o B c : Nat) (l : List UInt8) (h12 : 12 < l.length) (hl : l.length ≤ c) (hc : l.length ≤ 140737488355328) (hb : Byt w B (some ⟨g, o, none⟩) l) :
    Calls Try.prog 97 #[.slice (some ⟨g, o, none⟩) l.length c] w fun e w' => e = .returned (.int .u16 (headS l : Nat)) ∧ ∃ n, w' = w.drewN n := by
  obtain ⟨s, hs⟩ : ∃ s, s = addS 0 (l.take 10) := ⟨_, rfl⟩
  have hs1 : s ≤ 65535 := by rw [hs]; exact addS_le 0 _ (Nat.zero_le _)
  obtain ⟨t, ht⟩ : ∃ t, t = addS s (l.drop 12) := ⟨_, rfl⟩
  have ht1 : t ≤ 65535 := by rw [ht]; exact addS_le s _ hs1
  have hR : headS l = 65535 - t := by unfold headS; rw [← hs, ← ht]
  have b1 : Byt w B (some ⟨g, o, none⟩) (l.take 10) := fun hp => by
    obtain ⟨b, off, e, hB, hc⟩ := hb (by omega)
    exact ⟨b, off, e, hB, fun i hi => by rw [hc i (by simp at hi; omega)]; simp⟩
  have b2 := hb.cut 12
  have l1 : (l.take 10).length = 10 := by simp; omega
  have l2 : (l.drop 12).length = l.length - 12 := by simp
  have C1 : ∀ c', 10 ≤ c' → Calls Try.prog 54 #[.int .u16 0, .slice (some ⟨g, o, none⟩) (l.take 10).length c'] w fun e w' => e = .returned (.int .u16 (addS 0 (l.take 10) : Nat)) ∧ ∃ n, w' = w.drewN n := fun c' hc' => add_any 0 (some ⟨g, o, none⟩) c' (l.take 10) B w (by omega) (by omega) (by omega) b1
  have C2 := fun n => add_any s (some ⟨g, o + 12, none⟩) (c - 12) (l.drop 12) B (w.drewN n) hs1 (by omega) (by omega) (b2.drewN n)
  rw [l1] at C1
  rw [l2] at C2
  rw [← hs] at C1
  rw [← ht] at C2
  have D1 := hide C1
  have D2 := hide C2
  have HR := hide hR
  obtain ⟨n, hn⟩ : ∃ n, n = l.length := ⟨_, rfl⟩
  rw [← hn] at h12 hl hc D2 ⊢
  clear C1 C2 b1 b2 hb hs ht hR l1 l2 hn
  go_enter Try.func97, Try.ntmps97
  go_wp2_with (first | (go_at_call 54; (first | ((with_reducible refine (D1.out _ (by omega)).mono ?_); rintro _ _ ⟨rfl, n1, rfl⟩) | ((with_reducible refine (D2.out _).mono ?_); rintro _ _ ⟨rfl, n2, rfl⟩) | fail)) | fail)
  go_ret
  refine ⟨?_, n1 + n2, rfl⟩
  rw [HR.out]
  exact (show Ending.returned (Value.int .u16 (65535 - (t : Int))) = _ from by rw [show (65535 - (t : Int)) = ((65535 - t : Nat) : Int) by omega])
end Go.Proofs.Ytcagdcjikbkapaa
