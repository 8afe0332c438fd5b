/-
  The document's queue: what is told now.
-/
import Derived.Test.YtajpibopknpmmaaYd
namespace Go.Proofs.Ytajpibopknpmmaa
open Go.RowKit
set_option maxRecDepth 100000
set_option linter.unusedVariables false
set_option linter.unusedSimpArgs false
attribute [local go_sem ↓] exec_span exec_put exec_build heap_alloc_new heap_old
attribute [local go_sem] spanQ_ptr spanC_some heap_of_drew heap_of_drewN putAt_ptr putOk_ptr oldOk_some World.setRow_alloc_new rs_ri built_rnews

/-- what was told, whose bytes lie in blocks of T. -/
def NwtC (w : World) (T : Nat → Prop) : List Value → List (Int × List UInt8) → Prop
  | [], [] => True
  | a :: b :: s, p :: t => a = .int .i64 p.1 ∧ (∃ D c, b = .slice D p.2.length c ∧ p.2.length ≤ c ∧ Byt w w.heap.size D p.2 ∧ ∀ a, D = some a → T a.block) ∧ NwtC w T s t
  | _, _ => False
theorem NwtC.nws {w w' : World} {T : Nat → Prop} (hk : ∀ D l, Byt w w.heap.size D l → (∀ a, D = some a → T a.block) → Byt w' w'.heap.size D l) : ∀ {cs : List Value} {l : List (Int × List UInt8)}, NwtC w T cs l → NwsC w' 0 cs l
  | [], [], _ => trivial
  | a :: b :: s, p :: t, h => ⟨h.1, by obtain ⟨D, c, e, h1, h2, h3⟩ := h.2.1; exact ⟨D, c, e, h1, hk _ _ h2 h3, fun _ _ => Nat.zero_le _⟩, NwtC.nws hk h.2.2⟩
  | [], _ :: _, h => by unfold NwtC at h; exact h.elim
  | [_], [], h => by unfold NwtC at h; exact h.elim
  | [_], _ :: _, h => by unfold NwtC at h; exact h.elim
  | _ :: _ :: _, [], h => by unfold NwtC at h; exact h.elim
theorem NwtC.snoc {w : World} {T : Nat → Prop} {k : Int} {D : Option Addr} {c : Nat} {d : List UInt8} (hc : d.length ≤ c) (hb : Byt w w.heap.size D d) (hD : ∀ a, D = some a → T a.block) : ∀ {cs : List Value} {l : List (Int × List UInt8)}, NwtC w T cs l → NwtC w T (cs ++ [.int .i64 k, .slice D d.length c]) (l ++ [(k, d)])
  | [], [], _ => ⟨rfl, ⟨D, c, rfl, hc, hb, hD⟩, trivial⟩
  | a :: b :: s, p :: t, h => ⟨h.1, h.2.1, NwtC.snoc hc hb hD h.2.2⟩
  | [], _ :: _, h => by unfold NwtC at h; exact h.elim
  | [_], [], h => by unfold NwtC at h; exact h.elim
  | [_], _ :: _, h => by unfold NwtC at h; exact h.elim
  | _ :: _ :: _, [], h => by unfold NwtC at h; exact h.elim
theorem below_of_grown {B : Nat} {W wr w8 : World} {v : Value} (h : Below B W wr) (g : wr.grownBy w8 v.ownBlock) (hB : B ≤ wr.heap.size) (hv : ∀ g, v.ownBlock = some g → B ≤ g) : Below B W w8 :=
  ⟨g.os.trans h.os, g.tape.trans h.tape, g.output.trans h.output, Nat.le_trans h.size g.size, fun i hi => (g.block i (by omega) (fun e => by have := hv i e.symm; omega)).trans (h.block i hi)⟩
theorem row_base {w : World} {base e s n : Nat} {v : Value} {xs : List Value} (h : w.ownsRow base e s v n xs) : ∀ g, v.ownBlock = some g → base ≤ g := by
  rcases h.2 with ⟨rfl, _⟩ | ⟨g', cap, cur, rfl, hb, _⟩
  · intro g hg; cases hg
  · intro g hg; cases hg; exact hb
theorem row_slice {w : World} {base e s n : Nat} {v : Value} {xs : List Value} (h : w.ownsRow base e s v n xs) : ∃ A c, v = .slice A n c := by
  rcases h.2 with ⟨rfl, h0⟩ | ⟨g', cap, cur, rfl, hb, _⟩
  · exact ⟨none, 0, by rw [h0]⟩
  · exact ⟨_, cap, rfl⟩
/-- while the news are gone through: what was told, what is left. -/
structure PkI (W wr : World) (T : Nat → Prop) (ov rv : Value) (l : List (Int × List UInt8)) (R' : List (Int × Nw)) : Prop where
  below : Below W.heap.size W wr
  out : ∃ cs, wr.ownsRow W.heap.size 63 2 ov l.length cs ∧ NwtC W T cs l
  rest : ∃ cs, wr.ownsRow W.heap.size 65 3 rv R'.length cs ∧ ItemC W T cs R'
/-- told: behind the append to what was told, and the number one less. -/
theorem PkI.told {W wr W1 w8 : World} {T : Nat → Prop} {ov rv ov' : Value} {l : List (Int × List UInt8)} {R' : List (Int × Nw)} {cs : List Value} {k : Int} {D : Option Addr} {c B : Nat} {d : List UInt8} {X : Obj} {Xb : Array Value} {u : Value} (h : PkI W wr T ov rv l R') (h1 : wr.ownsRow W.heap.size 63 2 ov l.length cs) (h2 : NwtC W T cs l)
    (hc : d.length ≤ c) (hb : Byt W W.heap.size D d) (hD : ∀ a, D = some a → T a.block) (hB : B = wr.heap.size) (b1 : Below wr.heap.size wr W1) (r1 : W1.heap[B]? = some (.cells Xb 65 (0, 0)))
    (o8 : w8.ownsRow W.heap.size 63 2 ov' (l.length + 1) (cs ++ [.int .i64 k, .slice D d.length c])) (g8 : (W1.alloc X).grownBy w8 ov.ownBlock) :
    PkI W (w8.setCell ⟨B, 2, none⟩ u) T ov' rv (l ++ [(k, d)]) R' ∧ w8.heap[B]? = some (.cells Xb 65 (0, 0)) := by
  obtain ⟨cr, h3, h4⟩ := h.rest
  have hWr := h.below.size
  have bX : Below wr.heap.size wr (W1.alloc X) := b1.alloc b1.size X
  have hov := row_base h1
  have hBl : B < (W1.alloc X).heap.size := by have := (Array.getElem?_eq_some_iff.1 r1).1; simp; omega
  have hovB : ov.ownBlock ≠ some B := fun e => by have := (World.ownsRow.lt h1 B e).2; omega
  have hr8 : w8.heap[B]? = some (.cells Xb 65 (0, 0)) := (g8.block B hBl (fun e => hovB e.symm)).trans ((heap_alloc_old _ _ (Array.getElem?_eq_some_iff.1 r1).1).trans r1)
  have hs : w8.grownBy (w8.setCell ⟨B, 2, none⟩ u) (some B) := grown_set w8 B 2 u
  have b8 : Below W.heap.size W w8 := below_of_grown (h.below.trans (bX.mono hWr)) g8 (Nat.le_trans hWr bX.size) hov
  refine ⟨⟨below_of_grown (v := .slice (some ⟨B, 0, none⟩) 0 0) b8 hs b8.size (fun g hg => by
    have hBg : B = g := by simpa [Value.ownBlock] using hg
    omega), ⟨_, ?_, NwtC.snoc hc hb hD h2⟩, ⟨cr, ?_, h4⟩⟩, hr8⟩
  · rw [List.length_append]
    exact World.ownsRow.kept o8 hs (.inr (own_neT o8 hr8 (by decide)))
  · have a1 := ownsRow_below h3 bX
    have a2 := World.ownsRow.kept a1 g8 (own_ne2 a1 (ownsRow_below h1 bX) (by decide))
    exact World.ownsRow.kept a2 hs (.inr fun e => by have := (World.ownsRow.lt h3 B e).2; omega)
/-- kept: behind the append to what is left. -/
theorem PkI.left {W wr w8 : World} {T : Nat → Prop} {ov rv rv' : Value} {l : List (Int × List UInt8)} {R' : List (Int × Nw)} {cs : List Value} {k : Int} {D : Option Addr} {c : Nat} {x : Nw} {X : Obj} (h : PkI W wr T ov rv l R') (h1 : wr.ownsRow W.heap.size 65 3 rv R'.length cs) (h2 : ItemC W T cs R')
    (hc : x.1.length ≤ c) (hb : Byt W W.heap.size D x.1) (hD : ∀ a, D = some a → T a.block)
    (o8 : w8.ownsRow W.heap.size 65 3 rv' (R'.length + 1) (cs ++ [.int .i64 k, .slice D x.1.length c, .int .i64 (x.2 : Int)])) (g8 : (wr.alloc X).grownBy w8 rv.ownBlock) :
    PkI W w8 T ov rv' l (R' ++ [(k, x)]) := by
  obtain ⟨co, h3, h4⟩ := h.out
  have bX : Below wr.heap.size wr (wr.alloc X) := (Below.refl _ _).alloc (Nat.le_refl _) X
  refine ⟨below_of_grown (h.below.trans (bX.mono h.below.size)) g8 (Nat.le_trans h.below.size bX.size) (row_base h1), ⟨co, ?_, h4⟩, ⟨_, by rw [List.length_append]; exact o8, ItemC.snoc hc hb hD h2⟩⟩
  have a1 := ownsRow_below h3 bX
  exact World.ownsRow.kept a1 g8 (own_ne2 a1 (ownsRow_below h1 bX) (by decide))
theorem PkI.mono {W wr W1 : World} {T : Nat → Prop} {ov rv : Value} {l : List (Int × List UInt8)} {R' : List (Int × Nw)} (h : PkI W wr T ov rv l R') (b : Below wr.heap.size wr W1) : PkI W W1 T ov rv l R' := by
  obtain ⟨co, h1, h2⟩ := h.out
  obtain ⟨cr, h3, h4⟩ := h.rest
  exact ⟨h.below.trans (b.mono h.below.size), ⟨co, ownsRow_below h1 b, h2⟩, ⟨cr, ownsRow_below h3 b, h4⟩⟩
theorem wr64_in (x : Int) (h1 : -9223372036854775808 ≤ x) (h2 : x ≤ 9223372036854775807) : wrap64 x = x := by unfold wrap64; omega
theorem pickD_told {p : Int × Nw} {t : List (Int × Nw)} {rm : Int} (h : (p.2.1.length : Int) ≤ rm) : (pickD (p :: t) rm).1 = (p.1, p.2.1) :: (pickD t (rm - p.2.1.length)).1 ∧ (pickD (p :: t) rm).2 = if 1 < p.2.2 then (p.1, (p.2.1, p.2.2 - 1)) :: (pickD t (rm - p.2.1.length)).2 else (pickD t (rm - p.2.1.length)).2 := by
  have e : pickD (p :: t) rm = ((p.1, p.2.1) :: (pickD t (rm - (p.2.1.length : Int))).1, if 1 < p.2.2 then (p.1, (p.2.1, p.2.2 - 1)) :: (pickD t (rm - (p.2.1.length : Int))).2 else (pickD t (rm - (p.2.1.length : Int))).2) := by
    rw [pickD, if_pos h]
  rw [e]; exact ⟨rfl, rfl⟩
theorem pickD_not {p : Int × Nw} {t : List (Int × Nw)} {rm : Int} (h : ¬ (p.2.1.length : Int) ≤ rm) : (pickD (p :: t) rm).1 = (pickD t rm).1 ∧ (pickD (p :: t) rm).2 = p :: (pickD t rm).2 := by
  have e : pickD (p :: t) rm = ((pickD t rm).1, p :: (pickD t rm).2) := by
    rw [pickD, if_neg h]
  rw [e]; exact ⟨rfl, rfl⟩
/-- behind a Pick of the document's. -/
def PickRP (w : World) (r : Nat) (most : Int) (v : Value) (R : List (Int × Nw)) (T : Nat → Prop) (room : Int) (e : Ending) (w' : World) : Prop :=
  ∃ ov v', e = .returned ov ∧ NwsR w' 0 63 ov (pickD (ordD R) room).1 ∧ RefQ w' r most v' (pickD (ordD R) room).2 T ∧ KeepR r v w w' ∧ ∀ g, v'.ownBlock = some g → w.heap.size ≤ g
theorem pick_end {w W wr : World} {r : Nat} {most room : Int} {v ov rv : Value} {R : List (Int × Nw)} {T : Nat → Prop} (h : RefQ w r most v R T) (bW : Below w.heap.size w W) (hI : PkI W wr T ov rv (pickD (ordD R) room).1 (pickD (ordD R) room).2) :
    PickRP w r most v R T room (.returned ov) (wr.setCell ⟨r, 1, none⟩ rv) := by
  obtain ⟨co, h1, h2⟩ := hI.out
  obtain ⟨cr, h3, h4⟩ := hI.rest
  have hr : r < w.heap.size := (Array.getElem?_eq_some_iff.1 h.row).1
  have hwW := bW.size
  have hWr := hI.below.size
  have b : Below w.heap.size w wr := bW.trans (hI.below.mono hwW)
  have hrow := (b.block r hr).trans h.row
  have hs : wr.grownBy (wr.setCell ⟨r, 1, none⟩ rv) (some r) := grown_set wr r 1 rv
  have hk : ∀ D m, Byt W W.heap.size D m → (∀ a, D = some a → T a.block) → Byt (wr.setCell ⟨r, 1, none⟩ rv) (wr.setCell ⟨r, 1, none⟩ rv).heap.size D m := fun D m hb hD =>
    byt_T hb (fun i hi hil => (hs.block i (by omega) (fun e => (h.sep i hi).2.1 (by cases e; rfl))).trans (hI.below.block i hil)) (Nat.le_trans hWr hs.size) hD
  refine ⟨ov, rv, rfl, ⟨co, row_mono (World.ownsRow.kept h1 hs (.inr fun e => by have := row_base h1 r e; omega)) (Nat.zero_le _), h2.nws hk⟩, ⟨?_, ⟨cr, row_mono (World.ownsRow.kept h3 hs (.inr fun e => by have := row_base h3 r e; omega)) (Nat.zero_le _), h4.mono (fun _ hg => hg) hk⟩, pickD_ok _ _ (ordD_ok h.ok), fun g hg => ?_⟩, ?_, fun g hg => Nat.le_trans hwW (row_base h3 g hg)⟩
  · unfold World.setCell
    rw [Array.getElem?_modify, if_pos rfl, hrow]; rfl
  · have := h.sep g hg
    refine ⟨Nat.lt_of_lt_of_le this.1 (Nat.le_trans (Nat.le_trans hwW hWr) hs.size), this.2.1, fun e => by have := row_base h3 g e; omega⟩
  · exact ⟨hs.os.trans b.os, hs.tape.trans b.tape, hs.output.trans b.output, Nat.le_trans b.size hs.size, fun i hi hne _ => (hs.block i (by omega) (fun e => hne (by cases e; rfl))).trans (b.block i hi)⟩

set_option maxHeartbeats 8000000 in
theorem pickR_any (w : World) (r : Nat) (most : Int) (v : Value) (R : List (Int × Nw)) (T : Nat → Prop) (room : Int) (h : RefQ w r most v R T) (hl : R.length ≤ 4096) (hroom : -9223372036854775808 ≤ room ∧ room ≤ 9223372036854775807) :
    Calls Try.prog 19 #[.pointer (some ⟨r, 0, none⟩), .int .i64 room] w (PickRP w r most v R T room) := by
  have KO := orderR_any w r most v R T h hl
  have HW := hide h
  have HL := hide hl
  have HRM := hide hroom
  clear h hl hroom
  go_enter Try.func19, Try.ntmps19
  go_wp2_with (first | (go_at_call 32; refine KO.mono ?_; rintro e W ⟨G, rfl, hG, bW, hIt⟩) | fail)
  obtain ⟨n, hn⟩ : ∃ n, n = R.length := ⟨_, rfl⟩
  have hSl : (ordD R).length = n := by rw [ordD_len, hn]
  obtain ⟨S, hS⟩ : ∃ S, S = ordD R := ⟨_, rfl⟩
  rw [← hn] at hIt ⊢
  rw [← hS] at hIt hSl
  obtain ⟨A0, c0, cs, hv0, hcs, hblk⟩ := hIt.block
  have HBK : Hid (0 < n → ∃ cur, W.heap[G]? = some (.cells cur 65 (0, 0)) ∧ n * 3 ≤ cur.size ∧ cur.toList.take (n * 3) = cs) := hide (fun hp => by
    obtain ⟨g, cur, e1, e2, e3, e4⟩ := hblk (by rw [hSl]; exact hp)
    simp only [Value.slice.injEq] at hv0
    rw [e1] at hv0
    obtain ⟨h1, -, -⟩ := hv0
    cases h1
    rw [hSl] at e3 e4
    exact ⟨cur, e2, e3, e4⟩)
  have HCS := hide hcs
  have HS := hide hS
  have HSL := hide hSl
  have BW := hide bW
  have HN := hide hn
  have hn4 : n ≤ 4096 := by have := HL.out; omega
  have HT := hide (fun g (hg : T g) => (HW.out.sep g hg).1)
  clear KO hblk hcs hS hSl bW hn hv0 hIt
  go_loopw [1, 6, 7, 8] (fun rm ov rv i wr => ∃ (j : Nat) (q : Int) (l : List (Int × List UInt8)) (R' : List (Int × Nw)), j ≤ n ∧ i = .int .i64 (j : Int) ∧ rm = .int .i64 q ∧ Hid (PkI W wr T ov rv l R') ∧
    Hid (l ++ (pickD (S.drop j) q).1 = (pickD S room).1 ∧ R' ++ (pickD (S.drop j) q).2 = (pickD S room).2 ∧ l.length ≤ j ∧ R'.length ≤ j ∧ -9223372036854775808 ≤ q ∧ q ≤ 9223372036854775807)) (fun _ _ _ i _ => n - (Go.RowKit.intOf i).toNat)
  case atStart => exact ⟨0, room, [], [], by omega, rfl, rfl, hide ⟨Below.refl _ _, ⟨[], World.ownsRow_nil _ _ _ _, by simp [NwtC]⟩, ⟨[], World.ownsRow_nil _ _ _ _, by simp [ItemC]⟩⟩, hide ⟨by simp, by simp, by simp, by simp, HRM.out⟩⟩
  case round =>
    obtain ⟨j, q, l, R', hj, rfl, rfl, hI, hQ⟩ := hrel
    obtain ⟨wo, hwo⟩ : ∃ wo, wo = wr := ⟨_, rfl⟩
    subst hwo
    have hsz := hI.out.below.size
    by_cases hlt : j < n
    · have hji : (j : Int) < (n : Int) := by omega
      have hjl : j < S.length := by rw [HSL.out]; exact hlt
      obtain ⟨cur, hcG, hcs3, hct⟩ := HBK.out (by omega)
      rw [← HSL.out] at hcs3 hct
      obtain ⟨D, cD, hX, hDc, hDb, hDT⟩ := ext_item HCS.out hcs3 hct j hjl
      obtain ⟨p, hp⟩ : ∃ p, p = S[j] := ⟨_, rfl⟩
      have hdrop : S.drop j = p :: S.drop (j + 1) := by rw [hp]; exact List.drop_eq_getElem_cons hjl
      rw [← hp] at hX hDc hDb
      have hpo := HW.out.ok.each p ((ordD_perm R).mem_iff.1 (by rw [← HS.out, hp]; exact List.getElem_mem hjl))
      have hq3 : j * 3 + 3 ≤ cur.size := by omega
      have hGr := (hI.out.below.block G (Array.getElem?_eq_some_iff.1 hcG).1).trans hcG
      rw [hdrop] at hQ
      obtain ⟨⟨k, ⟨d, t⟩⟩, hpe⟩ : ∃ x, x = p := ⟨_, rfl⟩
      subst hpe
      dsimp only at hX hDc hDb hpo
      have HD := hide (And.intro hDc (And.intro hDb hDT))
      have HPO := hide hpo
      obtain ⟨m, hm⟩ : ∃ m, m = d.length := ⟨_, rfl⟩
      rw [← hm] at hX
      have HM := hide hm
      have HQ2 := hide hQ.out
      clear hct hcs3 hp hdrop hDc hDb hDT hcG hjl hpo hm hQ
      go_upto_region 8 with (fail)
      obtain ⟨W1, hW1, r1, z1, b1⟩ := alloc_nm wo (.cells #[.int .i64 k, .slice D m cD, .int .i64 (t : Int)] 65)
      rw [hW1]
      obtain ⟨B, hB⟩ : ∃ B, B = wo.heap.size := ⟨_, rfl⟩
      rw [← hB] at r1 ⊢
      have HB := hide hB
      have B1 := hide b1
      have R1 := hide r1
      have LB : Hid (B < W1.heap.size) := hide (Array.getElem?_eq_some_iff.1 r1).1
      clear hW1 z1 b1 hB hGr hX hq3
      have k0 : W1.cell? ⟨B, 0, none⟩ = some (.int .i64 k) := (cell_of_row W1 B 0 _ _ (0, 0) r1).trans rfl
      have k1 : W1.cell? ⟨B, 1, none⟩ = some (.slice D m cD) := (cell_of_row W1 B 1 _ _ (0, 0) r1).trans rfl
      have k2 : W1.cell? ⟨B, 2, none⟩ = some (.int .i64 (t : Int)) := (cell_of_row W1 B 2 _ _ (0, 0) r1).trans rfl
      obtain ⟨co, hro, hno⟩ := hI.out.out
      obtain ⟨cr, hrr, hir⟩ := hI.out.rest
      have HRO := hide hro
      have HNO := hide hno
      have HRR := hide hrr
      have HIR := hide hir
      have ht0 : 0 < t := HPO.out.2.2.2.1
      have HI := hide hI.out
      obtain ⟨i0, hi, hz0, hz1, hz2⟩ := info_parts info_rnews
      obtain ⟨j0, hj0, hy0, hy1, hy2⟩ := info_parts info_ri3
      have HTY := hide hj0
      clear hro hno hrr hir hI
      have HLJ := hide (And.intro HQ2.out.2.2.1 HQ2.out.2.2.2.1)
      by_cases hle : (m : Int) ≤ q
      · have HLE := hide hle
        obtain ⟨q2, hq2⟩ : ∃ x, x = q - (m : Int) := ⟨_, rfl⟩
        have hwr : wrap64 (q - (m : Int)) = q2 := by
          rw [hq2]
          exact wr64_in _ (by have := HQ2.out.2.2.2.2; omega) (by have := HQ2.out.2.2.2.2; omega)
        have HQQ := hide hq2
        clear hq2
        go_upto_region 10 with (fail)
        rw [hwr]
        clear hle hwr
        have HA := hide (World.ownsRow.alloc (ownsRow_below HRO.out B1.out) (.cells #[.int .i64 k, .slice D m cD] 63))
        have HZ2 : Hid (l.length + 1 ≤ maxLen) := hide (by have := HLJ.out; unfold maxLen; omega)
        have HZ3 : Hid ((l.length + 1) * 32 ≤ 140737488355328) := hide (by have := HLJ.out; omega)
        have HZ4 : Hid (W.heap.size ≤ W1.heap.size + 1) := hide (by have := B1.out.size; omega)
        go_upto_region 11 with (first
          | (refine wpList_append_lies _ (by rfl) (.tmp 32) (.tmp 38) 40 (by rfl) W.heap.size 63 i0 _ 2 32 Try.underlying40 hi hz0 hz1 hz2 rfl (by decide) u6 l.length co (by rfl) HA.out
               ⟨W1.heap.size, 0, none⟩ 1 1 [Value.int .i64 k, .slice D m cD] (by rfl) (by rfl) (World.news_of_block (cs := #[.int .i64 k, .slice D m cD]) (t := 63) (fr := (0, 0)) (heap_alloc_new W1 _)) (by simp [Value.oneCell']) (by decide) HZ2.out HZ3.out (by simpa using HZ4.out) (W1.heap.size + 1) (by simp) ?_
             intro gg cap w8 o8 g8 t8 l8
             have HT8 := hide (fun u => PkI.told (u := u) HI.out HRO.out HNO.out HD.out.1 HD.out.2.1 HD.out.2.2 HB.out B1.out R1.out (by rw [HM.out] at o8; exact o8) g8)
             clear t8 l8 o8 g8)
          | fail)
        have r8 := (HT8.out undef).2
        have c8 : w8.cell? ⟨B, 2, none⟩ = some (.int .i64 (t : Int)) := (cell_of_row w8 B 2 _ _ (0, 0) r8).trans rfl
        have f8 : w8.frozen? ⟨B, 2, none⟩ = false := frozen_of_row w8 B 2 _ _ r8
        have R8 := hide r8
        obtain ⟨s, hs⟩ : ∃ x, x = t - 1 := ⟨_, rfl⟩
        have hw1 : wrap64 ((t : Int) - 1) = (s : Int) := by rw [wr64_in _ (by omega) (by have := HPO.out.2.2.2.2; omega)]; omega
        have HSS := hide hs
        have HCZ := hide (And.intro (HQ2.out) (pickD_told (p := (k, (d, t))) (t := S.drop (j + 1)) (rm := q) (by rw [← HM.out]; exact HLE.out)))
        clear r8 hs
        go_upto_region 12 with (fail)
        try rw [hw1]
        obtain ⟨W9, hW9⟩ : ∃ W9, W9 = w8.setCell ⟨B, 2, none⟩ (.int .i64 (s : Int)) := ⟨_, rfl⟩
        rw [← hW9]
        have PK := (HT8.out (.int .i64 (s : Int))).1
        rw [← hW9] at PK
        have r9 : W9.heap[B]? = some (.cells #[.int .i64 k, .slice D m cD, .int .i64 (s : Int)] 65 (0, 0)) := by
          rw [hW9]
          unfold World.setCell
          rw [Array.getElem?_modify, if_pos rfl, R8.out]; rfl
        have c9 : W9.cell? ⟨B, 2, none⟩ = some (.int .i64 (s : Int)) := (cell_of_row W9 B 2 _ _ (0, 0) r9).trans rfl
        have HPK := hide PK
        clear hW9 PK c8 f8 hw1 k0 k1 k2 HT8
        by_cases hs1 : s = 0
        · subst hs1
          have HQN : Hid (l ++ [(k, d)] ++ (pickD (S.drop (j + 1)) q2).1 = (pickD S room).1 ∧ R' ++ (pickD (S.drop (j + 1)) q2).2 = (pickD S room).2 ∧ (l ++ [(k, d)]).length ≤ j + 1 ∧ R'.length ≤ j + 1 ∧ -9223372036854775808 ≤ q2 ∧ q2 ≤ 9223372036854775807) := hide (by
            obtain ⟨⟨a1, a2, a3, a4, a5, a6⟩, a7, a8⟩ := HCZ.out
            have hss := HSS.out
            have hqq := HQQ.out
            have hle := HLE.out
            rw [a7] at a1
            rw [a8, if_neg (by dsimp only; omega)] at a2
            dsimp only at a1 a2
            rw [← HM.out, ← hqq] at a1 a2
            refine ⟨by rw [← a1]; simp, a2, by simp; omega, by omega, by omega, by omega⟩)
          clear r9 HCZ
          go_wp2
          go_roundw
          case rel => exact ⟨j + 1, q2, l ++ [(k, d)], R', by omega, by go_num, rfl, HPK, HQN⟩
          case measure => simp [Go.RowKit.intOf]; omega
        · have hs0 : 0 < s := by omega
          obtain ⟨cr2, hrr2, hir2⟩ := HPK.out.rest
          have HRR2 := hide (And.intro hrr2 HPK.out.below.size)
          have HIR2 := hide hir2
          clear hrr2 hir2
          skip
          have HA := hide (World.ownsRow.alloc HRR2.out.1 (.cells #[.int .i64 k, .slice D m cD, .int .i64 (s : Int)] 65))
          have HZ2 : Hid (R'.length + 1 ≤ maxLen) := hide (by have := HLJ.out; unfold maxLen; omega)
          have HZ3 : Hid ((R'.length + 1) * 40 ≤ 140737488355328) := hide (by have := HLJ.out; omega)
          have HZ4 : Hid (W.heap.size ≤ W9.heap.size + 1) := hide (by have := HRR2.out.2; omega)
          have hx1 : (#[Value.int .i64 k, .slice D m cD, .int .i64 (s : Int)] : Array Value).extract 0 3 = #[Value.int .i64 k, .slice D m cD, .int .i64 (s : Int)] := rfl
          have hj1 := HTY.out
          go_upto_region 6 with (first
            | (refine wpList_append_lies _ (by rfl) (.tmp 47) (.tmp 49) 47 (by rfl) W.heap.size 65 j0 _ 3 40 Try.underlying47 hj1 hy0 hy1 hy2 rfl (by decide) u7 R'.length cr2 (by rfl) HA.out
                 ⟨W9.heap.size, 0, none⟩ 1 1 [Value.int .i64 k, .slice D m cD, .int .i64 (s : Int)] (by rfl) (by rfl) (World.news_of_block (cs := #[.int .i64 k, .slice D m cD, .int .i64 (s : Int)]) (t := 65) (fr := (0, 0)) (heap_alloc_new W9 _)) (by simp [Value.oneCell']) (by decide) HZ2.out HZ3.out (by simpa using HZ4.out) (W9.heap.size + 1) (by simp) ?_
               intro gg2 cap2 w10 o10 g10 t10 l10
               have HP10 := hide (PkI.left (x := (d, s)) HPK.out HRR2.out.1 HIR2.out HD.out.1 HD.out.2.1 HD.out.2.2 (by rw [HM.out] at o10; exact o10) g10)
               clear t10 l10 o10 g10)
            | fail)
          have HQN : Hid (l ++ [(k, d)] ++ (pickD (S.drop (j + 1)) q2).1 = (pickD S room).1 ∧ R' ++ [(k, (d, s))] ++ (pickD (S.drop (j + 1)) q2).2 = (pickD S room).2 ∧ (l ++ [(k, d)]).length ≤ j + 1 ∧ (R' ++ [(k, (d, s))]).length ≤ j + 1 ∧ -9223372036854775808 ≤ q2 ∧ q2 ≤ 9223372036854775807) := hide (by
            obtain ⟨⟨a1, a2, a3, a4, a5, a6⟩, a7, a8⟩ := HCZ.out
            have hss := HSS.out
            have hqq := HQQ.out
            have hle := HLE.out
            rw [a7] at a1
            rw [a8, if_pos (by dsimp only; omega)] at a2
            dsimp only at a1 a2
            rw [← HM.out, ← hqq] at a1 a2
            rw [← hss] at a2
            refine ⟨by rw [← a1]; simp, by rw [← a2]; simp, by simp; omega, by simp; omega, by omega, by omega⟩)
          clear HA hx1 r9 c9 HCZ
          go_wp2
          go_roundw
          case rel => exact ⟨j + 1, q2, l ++ [(k, d)], R' ++ [(k, (d, s))], by omega, by go_num, rfl, HP10, HQN⟩
          case measure => simp [Go.RowKit.intOf]; omega
      · go_upto_region 13 with (fail)
        have HPK := hide (HI.out.mono B1.out)
        have HRR2 := hide (And.intro (ownsRow_below HRR.out B1.out) HPK.out.below.size)
        have HLE := hide hle
        have r9 := R1.out
        clear hle
        skip
        have HA := hide (World.ownsRow.alloc HRR2.out.1 (.cells #[.int .i64 k, .slice D m cD, .int .i64 (t : Int)] 65))
        have HZ2 : Hid (R'.length + 1 ≤ maxLen) := hide (by have := HLJ.out; unfold maxLen; omega)
        have HZ3 : Hid ((R'.length + 1) * 40 ≤ 140737488355328) := hide (by have := HLJ.out; omega)
        have HZ4 : Hid (W.heap.size ≤ W1.heap.size + 1) := hide (by have := HRR2.out.2; omega)
        have hx1 : (#[Value.int .i64 k, .slice D m cD, .int .i64 (t : Int)] : Array Value).extract 0 3 = #[Value.int .i64 k, .slice D m cD, .int .i64 (t : Int)] := rfl
        have hj1 := HTY.out
        go_upto_region 6 with (first
          | (refine wpList_append_lies _ (by rfl) (.tmp 47) (.tmp 49) 47 (by rfl) W.heap.size 65 j0 _ 3 40 Try.underlying47 hj1 hy0 hy1 hy2 rfl (by decide) u7 R'.length cr (by rfl) HA.out
               ⟨W1.heap.size, 0, none⟩ 1 1 [Value.int .i64 k, .slice D m cD, .int .i64 (t : Int)] (by rfl) (by rfl) (World.news_of_block (cs := #[.int .i64 k, .slice D m cD, .int .i64 (t : Int)]) (t := 65) (fr := (0, 0)) (heap_alloc_new W1 _)) (by simp [Value.oneCell']) (by decide) HZ2.out HZ3.out (by simpa using HZ4.out) (W1.heap.size + 1) (by simp) ?_
             intro gg2 cap2 w10 o10 g10 t10 l10
             have HP10 := hide (PkI.left (x := (d, t)) HPK.out HRR2.out.1 HIR.out HD.out.1 HD.out.2.1 HD.out.2.2 (by rw [HM.out] at o10; exact o10) g10)
             clear t10 l10 o10 g10)
          | fail)
        have HQN : Hid (l ++ (pickD (S.drop (j + 1)) q).1 = (pickD S room).1 ∧ R' ++ [(k, (d, t))] ++ (pickD (S.drop (j + 1)) q).2 = (pickD S room).2 ∧ l.length ≤ j + 1 ∧ (R' ++ [(k, (d, t))]).length ≤ j + 1 ∧ -9223372036854775808 ≤ q ∧ q ≤ 9223372036854775807) := hide (by
          obtain ⟨a1, a2, a3, a4, a5, a6⟩ := HQ2.out
          obtain ⟨a7, a8⟩ := pickD_not (p := (k, (d, t))) (t := S.drop (j + 1)) (rm := q) (by rw [← HM.out]; exact HLE.out)
          rw [a7] at a1
          rw [a8] at a2
          refine ⟨a1, by rw [← a2]; simp, by omega, by simp; omega, a5, a6⟩)
        clear HA hx1 r9 k0 k1 k2
        go_wp2
        go_roundw
        case rel => exact ⟨j + 1, q, l, R' ++ [(k, (d, t))], by omega, by go_num, rfl, HP10, HQN⟩
        case measure => simp [Go.RowKit.intOf]; omega
    · obtain rfl : j = n := by omega
      obtain ⟨cr, hrr, hir⟩ := hI.out.rest
      obtain ⟨A7, c7, rfl⟩ := row_slice hrr
      have BB := (BW.out.trans (hI.out.below.mono BW.out.size))
      have hrow := (BB.block r (Array.getElem?_eq_some_iff.1 HW.out.row).1).trans HW.out.row
      have e1 : wo.cell? ⟨r, 1, none⟩ = some v := (cell_of_row wo r 1 _ _ (0, 0) hrow).trans rfl
      have f1 : wo.frozen? ⟨r, 1, none⟩ = false := frozen_of_row wo r 1 _ _ hrow
      have HE : Hid (PickRP w r most v R T room (.returned u6) (wo.setCell ⟨r, 1, none⟩ (.slice A7 R'.length c7))) := hide (by
        obtain ⟨a1, a2, -⟩ := hQ.out
        rw [List.drop_of_length_le (by rw [HSL.out]; exact Nat.le_refl _)] at a1 a2
        simp only [pickD, List.append_nil] at a1 a2
        have hI2 := hI.out
        rw [a1, a2, HS.out] at hI2
        exact pick_end HW.out BW.out (by simpa [a2, HS.out] using hI2))
      clear hrr hir BB hrow
      go_wp2
      go_ret
      exact HE.out
end Go.Proofs.Ytajpibopknpmmaa
