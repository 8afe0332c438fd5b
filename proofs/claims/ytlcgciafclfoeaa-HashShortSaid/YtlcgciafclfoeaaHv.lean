/-
  The walks of the document's own 'in' and Sip.
-/
import Derived.Test.YtlcgciafclfoeaaHu
namespace Go.Proofs.Ytlcgciafclfoeaa
open Go.RowKit
set_option linter.unusedVariables false

/-- four numbers and the place of what is to come of them, in two new blocks. -/
def Two4 (w : World) (g : Nat) (t : TypeId) (s : Sip4) (W : World) : Prop := StH W g t s ∧ StH W (g + 1) t ⟨0#64, 0#64, 0#64, 0#64⟩ ∧ Below g w W ∧ W.heap.size = g + 2
theorem two4_new (w : World) (a b c d : BitVec 64) (t : TypeId) : Two4 w w.heap.size t ⟨a, b, c, d⟩ ((w.alloc (.cells #[.int .u64 (a.toNat : Int), .int .u64 (b.toNat : Int), .int .u64 (c.toNat : Int), .int .u64 (d.toNat : Int)] t)).alloc (.cells #[.int .u64 0, .int .u64 0, .int .u64 0, .int .u64 0] t)) := by
  refine ⟨(Below.heap_alloc _ _ _ (by simp)).trans (heap_alloc_new w _), ?_, ((Below.refl _ _).alloc (Nat.le_refl _) _).alloc (by simp) _, by simp⟩
  have h := heap_alloc_new (w.alloc (.cells #[.int .u64 (a.toNat : Int), .int .u64 (b.toNat : Int), .int .u64 (c.toNat : Int), .int .u64 (d.toNat : Int)] t)) (.cells #[.int .u64 0, .int .u64 0, .int .u64 0, .int .u64 0] t)
  have e : (w.alloc (.cells #[.int .u64 (a.toNat : Int), .int .u64 (b.toNat : Int), .int .u64 (c.toNat : Int), .int .u64 (d.toNat : Int)] t)).heap.size = w.heap.size + 1 := by simp
  rw [e] at h
  exact h
theorem Two4.call {w W W' : World} {g : Nat} {t : TypeId} {s : Sip4} (h : Two4 w g t s W) (hb : Below W.heap.size W W') : StH W' g t s ∧ StH W' (g + 1) t ⟨0#64, 0#64, 0#64, 0#64⟩ ∧ Below g w W' :=
  ⟨(hb.block g (by have := h.2.2.2; omega)).trans h.1, (hb.block (g + 1) (by have := h.2.2.2; omega)).trans h.2.1, h.2.2.1.trans (hb.mono (by have := h.2.2.2; omega))⟩

set_option maxHeartbeats 2000000 in
theorem refin_any (w : World) (a b c d m : BitVec 64) :
    Calls Try.prog 24 #[.agg (⟨a, b, c, d⟩ : Sip4).vals, uV m] w fun e w' => e = .returned (.agg (inS ⟨a, b, c, d⟩ m).vals) ∧ Below w.heap.size w w' := by
  have HI : Hid (inS ⟨a, b, c, d⟩ m = (⟨(roundS (roundS ⟨a, b, c, d ^^^ m⟩)).a ^^^ m, (roundS (roundS ⟨a, b, c, d ^^^ m⟩)).b, (roundS (roundS ⟨a, b, c, d ^^^ m⟩)).c, (roundS (roundS ⟨a, b, c, d ^^^ m⟩)).d⟩ : Sip4)) := hide rfl
  unfold Sip4.vals uV
  go_enter Try.func24, Try.ntmps24
  go_wp2_with fail
  rw [c_xor]
  generalize (d ^^^ m) = x at HI ⊢
  have h0 := two4_new w a b c x 49
  generalize ((w.alloc (.cells #[.int .u64 (a.toNat : Int), .int .u64 (b.toNat : Int), .int .u64 (c.toNat : Int), .int .u64 (x.toNat : Int)] 49)).alloc (.cells #[.int .u64 0, .int .u64 0, .int .u64 0, .int .u64 0] 49)) = W0 at h0 ⊢
  refine (refround_any W0 a b c x).mono ?_
  rintro e W1 ⟨rfl, hb1⟩
  generalize roundS ⟨a, b, c, x⟩ = t1 at HI ⊢
  obtain ⟨p, q, r, s⟩ := t1
  have H0 := hide h0
  have HB1 := hide hb1
  clear h0 hb1
  unfold Sip4.vals uV
  go_wp2_with fail
  refine (refround_any W1 p q r s).mono ?_
  rintro e W2 ⟨rfl, hb2⟩
  generalize roundS ⟨p, q, r, s⟩ = t2 at HI ⊢
  obtain ⟨y0, y1, y2, y3⟩ := t2
  have hb12 : Below W0.heap.size W0 W2 := HB1.out.trans (hb2.mono HB1.out.size)
  obtain ⟨hS, hR, hB⟩ := H0.out.call hb12
  clear hb12 hb2 HB1 H0
  unfold Sip4.vals uV
  have k0 : W2.cell? ⟨w.heap.size, 0, none⟩ = some (.int .u64 (a.toNat : Int)) := hS.c0
  have f0 : W2.frozen? ⟨w.heap.size, 0, none⟩ = false := hS.fr 0
  have r0 : W2.cell? ⟨w.heap.size + 1, 0, none⟩ = some (.int .u64 0) := hR.c0
  have q0 : W2.frozen? ⟨w.heap.size + 1, 0, none⟩ = false := hR.fr 0
  have k1 : W2.cell? ⟨w.heap.size, 1, none⟩ = some (.int .u64 (b.toNat : Int)) := hS.c1
  have f1 : W2.frozen? ⟨w.heap.size, 1, none⟩ = false := hS.fr 1
  have r1 : W2.cell? ⟨w.heap.size + 1, 1, none⟩ = some (.int .u64 0) := hR.c1
  have q1 : W2.frozen? ⟨w.heap.size + 1, 1, none⟩ = false := hR.fr 1
  have k2 : W2.cell? ⟨w.heap.size, 2, none⟩ = some (.int .u64 (c.toNat : Int)) := hS.c2
  have f2 : W2.frozen? ⟨w.heap.size, 2, none⟩ = false := hS.fr 2
  have r2 : W2.cell? ⟨w.heap.size + 1, 2, none⟩ = some (.int .u64 0) := hR.c2
  have q2 : W2.frozen? ⟨w.heap.size + 1, 2, none⟩ = false := hR.fr 2
  have k3 : W2.cell? ⟨w.heap.size, 3, none⟩ = some (.int .u64 (x.toNat : Int)) := hS.c3
  have f3 : W2.frozen? ⟨w.heap.size, 3, none⟩ = false := hS.fr 3
  have r3 : W2.cell? ⟨w.heap.size + 1, 3, none⟩ = some (.int .u64 0) := hR.c3
  have q3 : W2.frozen? ⟨w.heap.size + 1, 3, none⟩ = false := hR.fr 3
  have HS := hide hS
  have HR := hide hR
  have HB := hide hB
  clear hS hR hB
  go_wp2_with fail
  rw [c_xor]
  have HZ : Hid (inS ⟨a, b, c, d⟩ m = (⟨y0 ^^^ m, y1, y2, y3⟩ : Sip4)) := hide (by rw [HI.out])
  clear HI
  generalize y0 ^^^ m = z at HZ ⊢
  have hF : StH (World.setCell (World.setCell (World.setCell (World.setCell (World.setCell (World.setCell (World.setCell (World.setCell (World.setCell W2 ⟨w.heap.size, 0, none⟩ (Value.int IntKind.u64 (y0.toNat : Int))) ⟨w.heap.size, 1, none⟩ (Value.int IntKind.u64 (y1.toNat : Int))) ⟨w.heap.size, 2, none⟩ (Value.int IntKind.u64 (y2.toNat : Int))) ⟨w.heap.size, 3, none⟩ (Value.int IntKind.u64 (y3.toNat : Int))) ⟨w.heap.size, 0, none⟩ (Value.int IntKind.u64 (z.toNat : Int))) ⟨w.heap.size + 1, 0, none⟩ (Value.int IntKind.u64 (z.toNat : Int))) ⟨w.heap.size + 1, 1, none⟩ (Value.int IntKind.u64 (y1.toNat : Int))) ⟨w.heap.size + 1, 2, none⟩ (Value.int IntKind.u64 (y2.toNat : Int))) ⟨w.heap.size + 1, 3, none⟩ (Value.int IntKind.u64 (y3.toNat : Int))) (w.heap.size + 1) 49 (⟨z, y1, y2, y3⟩ : Sip4) := (StH.set (s' := (⟨z, y1, y2, y3⟩ : Sip4)) (StH.set (s' := (⟨z, y1, y2, 0#64⟩ : Sip4)) (StH.set (s' := (⟨z, y1, 0#64, 0#64⟩ : Sip4)) (StH.set (s' := (⟨z, 0#64, 0#64, 0#64⟩ : Sip4)) (StH.other (StH.other (StH.other (StH.other (StH.other HR.out ⟨w.heap.size, 0, none⟩ _ (by simp)) ⟨w.heap.size, 1, none⟩ _ (by simp)) ⟨w.heap.size, 2, none⟩ _ (by simp)) ⟨w.heap.size, 3, none⟩ _ (by simp)) ⟨w.heap.size, 0, none⟩ _ (by simp)) 0 z rfl) 1 y1 rfl) 2 y2 rfl) 3 y3 rfl)
  have hBF : Below w.heap.size w (World.setCell (World.setCell (World.setCell (World.setCell (World.setCell (World.setCell (World.setCell (World.setCell (World.setCell W2 ⟨w.heap.size, 0, none⟩ (Value.int IntKind.u64 (y0.toNat : Int))) ⟨w.heap.size, 1, none⟩ (Value.int IntKind.u64 (y1.toNat : Int))) ⟨w.heap.size, 2, none⟩ (Value.int IntKind.u64 (y2.toNat : Int))) ⟨w.heap.size, 3, none⟩ (Value.int IntKind.u64 (y3.toNat : Int))) ⟨w.heap.size, 0, none⟩ (Value.int IntKind.u64 (z.toNat : Int))) ⟨w.heap.size + 1, 0, none⟩ (Value.int IntKind.u64 (z.toNat : Int))) ⟨w.heap.size + 1, 1, none⟩ (Value.int IntKind.u64 (y1.toNat : Int))) ⟨w.heap.size + 1, 2, none⟩ (Value.int IntKind.u64 (y2.toNat : Int))) ⟨w.heap.size + 1, 3, none⟩ (Value.int IntKind.u64 (y3.toNat : Int))) := (Below.setCell (Below.setCell (Below.setCell (Below.setCell (Below.setCell (Below.setCell (Below.setCell (Below.setCell (Below.setCell HB.out (p := ⟨w.heap.size, 0, none⟩) (by simp) _) (p := ⟨w.heap.size, 1, none⟩) (by simp) _) (p := ⟨w.heap.size, 2, none⟩) (by simp) _) (p := ⟨w.heap.size, 3, none⟩) (by simp) _) (p := ⟨w.heap.size, 0, none⟩) (by simp) _) (p := ⟨w.heap.size + 1, 0, none⟩) (by simp) _) (p := ⟨w.heap.size + 1, 1, none⟩) (by simp) _) (p := ⟨w.heap.size + 1, 2, none⟩) (by simp) _) (p := ⟨w.heap.size + 1, 3, none⟩) (by simp) _)
  generalize (World.setCell (World.setCell (World.setCell (World.setCell (World.setCell (World.setCell (World.setCell (World.setCell (World.setCell W2 ⟨w.heap.size, 0, none⟩ (Value.int IntKind.u64 (y0.toNat : Int))) ⟨w.heap.size, 1, none⟩ (Value.int IntKind.u64 (y1.toNat : Int))) ⟨w.heap.size, 2, none⟩ (Value.int IntKind.u64 (y2.toNat : Int))) ⟨w.heap.size, 3, none⟩ (Value.int IntKind.u64 (y3.toNat : Int))) ⟨w.heap.size, 0, none⟩ (Value.int IntKind.u64 (z.toNat : Int))) ⟨w.heap.size + 1, 0, none⟩ (Value.int IntKind.u64 (z.toNat : Int))) ⟨w.heap.size + 1, 1, none⟩ (Value.int IntKind.u64 (y1.toNat : Int))) ⟨w.heap.size + 1, 2, none⟩ (Value.int IntKind.u64 (y2.toNat : Int))) ⟨w.heap.size + 1, 3, none⟩ (Value.int IntKind.u64 (y3.toNat : Int))) = WF at hF hBF ⊢
  have z0 := hF.c0
  have z1 := hF.c1
  have z2 := hF.c2
  have z3 := hF.c3
  refine bodyPost_ret (v := .agg (⟨z, y1, y2, y3⟩ : Sip4).vals) (by simp [results, Try.results24, go_sem, z0, z1, z2, z3, Sip4.vals, uV]) rfl ⟨?_, hBF⟩
  rw [HZ.out]; rfl

theorem wordM_step (l : List UInt8) (k : Nat) (h : k < l.length) : 8 * (k / 8) + k % 8 = k := by omega
/-- bytes of which the first k have gone in: the state, and the word so far. -/
def InS (s0 : Sip4) (l : List UInt8) (k : Nat) (s : Sip4) (m : BitVec 64) : Prop :=
  bodyS s (l.drop (8 * (k / 8))) = bodyS s0 l ∧ m = wordB ((l.drop (8 * (k / 8))).take (k % 8))
theorem inS_start (s0 : Sip4) (l : List UInt8) : InS s0 l 0 s0 0#64 := ⟨by simp, by simp [wordB, wordF]⟩
theorem inS_some {s0 s : Sip4} {l : List UInt8} {k : Nat} {m : BitVec 64} (h : InS s0 l k s m) (hk : k < l.length) (h7 : k % 8 ≠ 7) : InS s0 l (k + 1) s (m ||| (BitVec.ofNat 64 l[k].toNat <<< (8 * (k % 8)))) := by
  have e : (k + 1) / 8 = k / 8 := by omega
  have e2 : (k + 1) % 8 = k % 8 + 1 := by omega
  refine ⟨by rw [e]; exact h.1, ?_⟩
  rw [e, e2, wordB_take (by rw [List.length_drop]; omega), h.2]
  congr 4
  rw [List.getElem_drop]; congr 1; omega
theorem inS_last {s0 s : Sip4} {l : List UInt8} {k : Nat} {m : BitVec 64} (h : InS s0 l k s m) (hk : k < l.length) (h7 : k % 8 = 7) : InS s0 l (k + 1) (inS s (m ||| (BitVec.ofNat 64 l[k].toNat <<< (8 * (k % 8))))) 0#64 := by
  have e : (k + 1) / 8 = k / 8 + 1 := by omega
  have e2 : (k + 1) % 8 = 0 := by omega
  have hw : m ||| (BitVec.ofNat 64 l[k].toNat <<< (8 * (k % 8))) = wordB ((l.drop (8 * (k / 8))).take 8) := by
    have e3 : k % 8 + 1 = 8 := by omega
    have hw2 := wordB_take (l := l.drop (8 * (k / 8))) (k := k % 8) (by rw [List.length_drop]; omega)
    rw [e3] at hw2
    rw [hw2, h.2]
    congr 4
    rw [List.getElem_drop]; congr 1; omega
  refine ⟨?_, ?_⟩
  · rw [hw, e, ← h.1, bodyS_more (l := l.drop (8 * (k / 8))) (by rw [List.length_drop]; omega), List.drop_drop]
    congr 2
  · rw [e2]; simp [wordB, wordF]
theorem inS_end {s0 s : Sip4} {l : List UInt8} {m : BitVec 64} (h : InS s0 l l.length s m) : bodyS s0 l = (s, l.drop (8 * (l.length / 8))) ∧ m = wordB (l.drop (8 * (l.length / 8))) := by
  refine ⟨?_, ?_⟩
  · rw [← h.1, bodyS_end (by rw [List.length_drop]; omega)]
  · rw [h.2, List.take_of_length_le (by rw [List.length_drop]; omega)]
end Go.Proofs.Ytlcgciafclfoeaa
