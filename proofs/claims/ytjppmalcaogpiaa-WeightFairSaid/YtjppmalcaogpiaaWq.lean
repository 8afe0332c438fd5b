import Derived.Test.YtjppmalcaogpiaaWt
namespace Go.Proofs.Ytjppmalcaogpiaa
open Go.RowKit
set_option maxRecDepth 100000
attribute [local go_sem] ord_none_lt ord_none_gt ord_none_eq ord_none_ne ord_lt_lt ord_lt_gt ord_lt_eq ord_lt_ne ord_gt_lt ord_gt_gt ord_gt_eq ord_gt_ne ord_eq_lt ord_eq_gt ord_eq_eq ord_eq_ne store_fl unary_negF
def flV (x : Nat) : Value := .float .f64 x
def inV (x : Nat) : Value := .int .i64 (x : Int)
theorem flV_one (l : List Nat) : ∀ v ∈ l.map flV, v.oneCell' = true := by
  intro v hv; obtain ⟨u, _, rfl⟩ := List.mem_map.1 hv; rfl
theorem inV_one (l : List Nat) : ∀ v ∈ l.map inV, v.oneCell' = true := by
  intro v hv; obtain ⟨u, _, rfl⟩ := List.mem_map.1 hv; rfl
theorem info_fl : (Try.prog.info? 22).map (fun i => (i.zero, i.size, i.bytes)) = some (some (.float .f64 0), 1, 8) := by kernel_rfl
theorem info_in : (Try.prog.info? 3).map (fun i => (i.zero, i.size, i.bytes)) = some (some (.int .i64 0), 1, 8) := by kernel_rfl

/-- the slice value v owns, from block 'base' on, a row of one-cell values. -/
def OwnR (w : World) (base : Nat) (t : TypeId) (v : Value) (xs : List Value) : Prop := w.ownsRow base t 1 v xs.length xs
theorem OwnR.nil (w : World) (base t : Nat) : OwnR w base t (.slice none 0 0) [] := World.ownsRow_nil w base t 1
theorem OwnR.shape {w : World} {base t : Nat} {v : Value} {xs : List Value} (h : OwnR w base t v xs) : ∃ A c, v = .slice A xs.length c ∧ xs.length ≤ c := by
  rcases h.2 with ⟨rfl, h0⟩ | ⟨g, cap, cur, rfl, _, _, hn, _⟩
  · exact ⟨none, 0, by rw [h0], by omega⟩
  · exact ⟨_, _, rfl, hn⟩
theorem OwnR.pos {w : World} {base t : Nat} {v : Value} {xs : List Value} (h : OwnR w base t v xs) (hp : 0 < xs.length) : ∃ g c, v = .slice (some ⟨g, 0, none⟩) xs.length c ∧ base ≤ g ∧ g < w.heap.size ∧ xs.length ≤ c := by
  rcases h.2 with ⟨rfl, h0⟩ | ⟨g, cap, cur, rfl, hb, hg, hn, _⟩
  · omega
  · exact ⟨_, _, rfl, hb, (Array.getElem?_eq_some_iff.1 hg).1, hn⟩
theorem OwnR.cell {w : World} {base t g n c : Nat} {xs : List Value} (h : OwnR w base t (.slice (some ⟨g, 0, none⟩) n c) xs) (j : Nat) (hj : j < xs.length) : w.cell? ⟨g, j, none⟩ = some xs[j] := by
  have hn : n = xs.length := by
    rcases h.2 with ⟨h', _⟩ | ⟨g', cap', cur, h', _⟩
    · cases h'
    · cases h'; rfl
  subst hn
  rw [World.ownsRow.cellAt h j (by omega)]; exact List.getElem?_eq_getElem hj
theorem OwnR.frozen {w : World} {base t g n c : Nat} {xs : List Value} (h : OwnR w base t (.slice (some ⟨g, 0, none⟩) n c) xs) (j : Nat) : w.frozen? ⟨g, j, none⟩ = false := by
  have hn : n = xs.length := by
    rcases h.2 with ⟨h', _⟩ | ⟨g', cap', cur, h', _⟩
    · cases h'
    · cases h'; rfl
  subst hn
  exact World.ownsRow.frozenAt h j
theorem OwnR.set {w : World} {base t g n c : Nat} {xs : List Value} (h : OwnR w base t (.slice (some ⟨g, 0, none⟩) n c) xs) (j : Nat) (u : Value) :
    OwnR (w.setCell ⟨g, j, none⟩ u) base t (.slice (some ⟨g, 0, none⟩) n c) (xs.set j u) ∧ w.grownBy (w.setCell ⟨g, j, none⟩ u) (some g) := by
  have hn : n = xs.length := by
    rcases h.2 with ⟨h', _⟩ | ⟨g', cap', cur, h', _⟩
    · cases h'
    · cases h'; rfl
  subst hn
  have := World.ownsRow.stored h j u
  refine ⟨?_, this.2⟩
  unfold OwnR; rw [List.length_set]; exact this.1
theorem OwnR.kept {w w' : World} {base t : Nat} {v : Value} {xs : List Value} {row : Option Nat} (h : OwnR w base t v xs) (hg : w.grownBy w' row) (hne : v.ownBlock = none ∨ v.ownBlock ≠ row) : OwnR w' base t v xs := World.ownsRow.kept h hg hne
theorem OwnR.alloc {w : World} {base t : Nat} {v : Value} {xs : List Value} (h : OwnR w base t v xs) (o : Obj) : OwnR (w.alloc o) base t v xs := World.ownsRow.alloc h o
theorem grown_of_below {w w' : World} (h : Below w.heap.size w w') : w.grownBy w' none := ⟨h.os, h.tape, h.output, h.size, fun k hk _ => h.block k hk⟩
theorem OwnR.below {w w' : World} {base t : Nat} {v : Value} {xs : List Value} (h : OwnR w base t v xs) (hb : Below w.heap.size w w') : OwnR w' base t v xs := by
  refine h.kept (grown_of_below hb) ?_
  cases hv : v.ownBlock with
  | none => exact .inl rfl
  | some k => exact .inr (by simp)
theorem OwnR.at {w : World} {base t : Nat} {v : Value} {xs : List Value} (h : OwnR w base t v xs) : ∀ k, v.ownBlock = some k → base ≤ k ∧ k < w.heap.size := World.ownsRow.lt h
theorem OwnR.ne {w : World} {base base' t t' : Nat} {v v' : Value} {xs xs' : List Value} (h : OwnR w base t v xs) (h' : OwnR w base' t' v' xs') (hne : t ≠ t') : v.ownBlock = none ∨ v.ownBlock ≠ v'.ownBlock := by
  rcases h'.2 with ⟨e1, _⟩ | ⟨g', cap, cur, e1, _, hh, _⟩
  · rcases h.2 with ⟨e2, _⟩ | ⟨g, cap, cur, e2, _⟩
    · exact .inl (by rw [e2]; rfl)
    · exact .inr (by rw [e1, e2]; simp [Value.ownBlock])
  · rcases h.2 with ⟨e2, _⟩ | ⟨g, cap', cur', e2, _, hg, _⟩
    · exact .inl (by rw [e2]; rfl)
    · refine .inr ?_
      rw [e1, e2]
      simp only [Value.ownBlock, ne_eq, Option.some.injEq]
      rintro rfl
      rw [hg] at hh
      injection hh with hh
      injection hh with _ h2
      exact hne h2
theorem OwnR.own {g n c : Nat} : (Value.slice (some ⟨g, 0, none⟩) n c).ownBlock = some g := rfl

theorem below_grown {B : Nat} {a w w' : World} {base t : Nat} {v : Value} {xs : List Value} (h : Below B a w) (ho : OwnR w base t v xs) (hg : w.grownBy w' v.ownBlock) (hb : B ≤ base) (hs : B ≤ w.heap.size) : Below B a w' :=
  h.grown hg hs fun k hk => Nat.le_trans hb (ho.at k hk).1

/-- an own row of floats reads as those floats. -/
theorem OwnR.fls {w : World} {base : Nat} {v : Value} {l : List Nat} (h : OwnR w base 22 v (l.map flV)) (hl : ∀ x ∈ l, x < 2 ^ 64) : ∃ A c, v = .slice A l.length c ∧ FlS w w.heap.size A l := by
  rcases Nat.eq_zero_or_pos l.length with h0 | hp
  · obtain rfl : l = [] := List.eq_nil_of_length_eq_zero h0
    obtain ⟨A, c, e, _⟩ := h.shape
    exact ⟨A, c, by simpa using e, FlS.nil _ _ _⟩
  · obtain ⟨g, c, e, _, hgl, _⟩ := h.pos (by simpa using hp)
    refine ⟨_, c, by simpa using e, hl, fun _ => ⟨g, 0, rfl, hgl, fun i hi => ?_⟩⟩
    rw [e] at h
    have := h.cell i (by simpa using hi)
    rw [Nat.zero_add, this]; simp [flV]

/-- the parts of all of them. -/
def partsL (l : List Nat) : List Nat := l.map (fun x => prtF x (bestF l))
theorem partsL_len (l : List Nat) : (partsL l).length = l.length := by simp [partsL]
theorem partsL_take {l : List Nat} {j : Nat} (h : j < l.length) : (partsL l).take (j + 1) = (partsL l).take j ++ [prtF l[j] (bestF l)] := by
  rw [List.take_succ_eq_append_getElem (by rw [partsL_len]; exact h)]; simp [partsL]

def PartsPost (w : World) (l : List Nat) (e : Ending) (w' : World) : Prop := ∃ v, e = .returned v ∧ OwnR w' w.heap.size 22 v ((partsL l).map flV) ∧ Below w.heap.size w w'

set_option maxHeartbeats 2000000 in
theorem parts_any (A : Option Addr) (c : Nat) (l : List Nat) (B : Nat) (w : World) (hl : l.length ≤ 32) (hB : B ≤ w.heap.size) (hb : FlS w B A l) :
    Calls Try.prog 34 #[.slice A l.length c] w (PartsPost w l) := by
  obtain ⟨i0, hi, hz0, hz1, hz2⟩ := info_parts info_fl
  obtain ⟨n, hn⟩ : ∃ n, n = l.length := ⟨_, rfl⟩
  obtain ⟨m, hm⟩ : ∃ m, m = bestF l := ⟨_, rfl⟩
  have CB := hide (fun w' (h : FlS w' B A l) (hB' : B ≤ w'.heap.size) => best_any A c l B w' (by omega) hB' h)
  rw [← hn, ← hm] at CB
  have hm64 : Hid (m < 2 ^ 64) := by refine hide ?_; have := bestF_lt l; rw [fI_val, ← hm] at this; omega
  rw [← hn] at hl ⊢
  have hlen := hide hn
  have hbest := hide hm
  have HF := hide hb
  clear hn hb hm
  go_enter Try.func34, Try.ntmps34
  go_wp2_with (first | ((with_reducible refine (CB.out _ HF.out hB).mono ?_); rintro e w1 ⟨rfl, B1⟩) | fail)
  have hB1 := hide B1
  clear B1
  go_loopw [4, 11] (fun u v wr => ∃ j : Nat, j ≤ n ∧ v = .int .i64 (j : Int) ∧ Hid (OwnR wr w.heap.size 22 u (((partsL l).take j).map flV)) ∧ Hid (Below w.heap.size w wr)) (fun _ v _ => n - (intOf v).toNat)
  case atStart => exact ⟨0, by omega, rfl, hide (by simpa using OwnR.nil _ _ _), hB1⟩
  case round =>
    obtain ⟨j, hj, rfl, hown, hbel⟩ := hrel
    by_cases hlt : j < n
    · obtain ⟨b, off, x, rfl, hbB, hx, hx64, hcell⟩ := (HF.out.below hbel.out hB).at (j := j) (by have := hlen.out; omega)
      obtain ⟨r, hr⟩ : ∃ r, r = prtF x m := ⟨_, rfl⟩
      have CP := hide (fun w' => part_any x m w' hx64 hm64.out)
      rw [← hr] at CP
      have HT : Hid (((partsL l).take (j + 1)).map flV = ((partsL l).take j).map flV ++ [flV r]) := by
        refine hide ?_
        rw [partsL_take (by have := hlen.out; omega), List.map_append, hr, hbest.out, hx]; rfl
      have hk : Hid ((((partsL l).take j).map flV).length = j) := by refine hide ?_; rw [List.length_map, List.length_take, partsL_len]; have := hlen.out; omega
      obtain ⟨Av, cv, hv, hcv⟩ := hown.out.shape
      rw [hk.out] at hv
      subst hv
      clear hr hx hx64 hcv
      have hjs : j ≤ 32 := by omega
      go_wp2_with (first | ((with_reducible refine (CP.out _).mono ?_); rintro e w2 ⟨rfl, B2⟩; have hB2 := hide B2; clear B2; have H3 : Hid (OwnR w2 w.heap.size 22 (.slice Av j cv) (((partsL l).take j).map flV)) := hide (hown.out.below hB2.out)) | (at_builtin; refine wpList_append_own _ rfl _ _ 28 rfl w.heap.size 22 i0 (.float .f64 0) 1 8 Try.underlying28 hi hz0 hz1 hz2 rfl (by decide) _ j (((partsL l).take j).map flV) rfl (by have h := H3.out.alloc (.cells #[.float .f64 r] 22); unfold OwnR at h; rw [hk.out] at h; exact h) ⟨w2.heap.size, 0, none⟩ 1 1 [flV r] rfl rfl ?c1 ?c2 ?c3 ?c4 ?c5 ?_) | fail)
      case c1 =>
        intro j u hj
        match j, hj with
        | 0, hj => simp [flV] at hj; subst hj; simp [Addr.add]
      case c2 => intro u hu; simp [flV] at hu; subst hu; rfl
      case c3 => unfold maxLen; omega
      case c4 => omega
      case c5 => have h1 := hbel.out.size; have h2 := hB2.out.size; simp; omega
      · intro v' w3 hown' hgrow _
        have HN : Hid (OwnR w3 w.heap.size 22 v' (((partsL l).take (j + 1)).map flV)) := by
          refine hide ?_
          rw [HT.out]; unfold OwnR; rw [List.length_append, hk.out, List.map_take]; exact hown'
        have HB3 : Hid (Below w.heap.size w w3) := by
          refine hide ?_
          have e1 : Below w.heap.size w w2 := hbel.out.trans (hB2.out.mono hbel.out.size)
          have h1 := hbel.out.size
          have h2 := hB2.out.size
          exact below_grown (e1.alloc (by omega) _) (H3.out.alloc _) hgrow (Nat.le_refl _) (by simp; omega)
        clear hown' hgrow hown hbel HT hk H3
        go_wp2
        go_roundw
        case rel => exact ⟨j + 1, by omega, by go_num, HN, HB3⟩
        case measure => simp [intOf]; omega
    · obtain rfl : j = n := by omega
      have H : Hid (OwnR wr w.heap.size 22 u4 ((partsL l).map flV)) := by
        refine hide ?_
        have := hown.out; rwa [List.take_of_length_le (by rw [partsL_len]; have := hlen.out; omega)] at this
      clear hlt hown
      go_wp2
      go_ret
      exact ⟨_, rfl, H.out, hbel.out⟩
end Go.Proofs.Ytjppmalcaogpiaa
