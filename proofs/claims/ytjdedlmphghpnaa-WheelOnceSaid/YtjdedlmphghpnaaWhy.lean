/-
  The clock goes on: what each step of Advance leaves, in the memory.
-/
import Derived.Test.YtjdedlmphghpnaaWhx
namespace Go.Proofs.Ytjdedlmphghpnaa
open Go.RowKit
set_option maxRecDepth 100000
set_option linter.unusedVariables false

theorem StW.row {w w' : World} {F F' : Nat → Prop} {base e k n : Nat} {v : Value} {xs : List Value} (h : StW w w' F F') (ho : w.ownsRow base e k v n xs) (hf : ∀ g, v.ownBlock = some g → ¬ F g) : w'.ownsRow base e k v n xs ∧ ∀ g, v.ownBlock = some g → ¬ F' g := by
  refine ⟨⟨ho.1, ?_⟩, fun g hg h1 => (h.own g h1).elim (hf g hg) (fun h2 => by have := (ho.lt g hg).2; omega)⟩
  rcases ho.2 with hn | ⟨g, cap, cur, e', hb, hgg, rest⟩
  · exact .inl hn
  · exact .inr ⟨g, cap, cur, e', hb, (h.block g (Array.getElem?_eq_some_iff.1 hgg).1 (hf g (by rw [e']; rfl))).trans hgg, rest⟩
/-- a row of one's own grows. -/
theorem StW.grown {w w1 w2 : World} {F G : Nat → Prop} {row : Option Nat} (h : StW w w1 F G) (hg : w1.grownBy w2 row) (hr : ∀ k, row = some k → w.heap.size ≤ k) : StW w w2 F G :=
  ⟨hg.os.trans h.os, hg.tape.trans h.tape, hg.output.trans h.output, Nat.le_trans h.size hg.size, fun k hk hn => (hg.block k (Nat.lt_of_lt_of_le hk h.size) (fun e => by have := hr k e.symm; omega)).trans (h.block k hk hn), h.own⟩
theorem WhP.grown {w w' : World} {p : Nat} {now : Int} {mv : Value} {S : List Value} {lv : Value} {T : List (Int × Value)} {SL : Nat → List Int} {LL : List (Int × Int)} {row : Option Nat} (h : WhP w p now mv S lv T SL LL) (hg : w.grownBy w' row) (hr : ∀ k, row = some k → ¬ OwnWh p mv S lv k) : WhP w' p now mv S lv T SL LL :=
  h.keep (fun k hk => hg.block k (h.lt k hk) (fun e => hr k e.symm hk)) hg.size
theorem own_read {w : World} {base e k n : Nat} {v : Value} {xs : List Value} (ho : w.ownsRow base e k v n xs) : ∃ A c, v = .slice A n c ∧ (A = none → c = 0) ∧ (0 < n → ∃ b off, A = some ⟨b, off, none⟩ ∧ ∀ j u, xs[j]? = some u → w.cell? ⟨b, off + j, none⟩ = some u) := by
  rcases ho.2 with ⟨rfl, rfl⟩ | ⟨g, cap, cur, rfl, hb, hg, hnc, hm, hsz, ht⟩
  · exact ⟨none, 0, rfl, fun _ => rfl, fun h => by omega⟩
  · refine ⟨_, cap, rfl, (fun e => by cases e), fun _ => ⟨g, 0, rfl, fun j u hu => ?_⟩⟩
    rw [cell_of_row w g (0 + j) _ _ (0, 0) hg, Nat.zero_add]
    rw [← ht, List.getElem?_take] at hu
    split at hu
    · simpa using hu
    · cases hu
section
variable {w w' : World} {p : Nat} {now to : Int} {mv : Value} {S : List Value} {lv : Value} {T : List (Int × Value)} {D : List (Int × Int)}
/-- how many ticks are passed. -/
def tickN (now to : Int) : Nat := (min to (now + 64) - now).toNat
theorem tickN_ok (h : now ≤ to) : tickN now to ≤ 64 ∧ ∀ k : Nat, now + k + 1 ≤ min to (now + 64) ↔ k < tickN now to := by
  unfold tickN
  rcases Int.le_total to (now + 64) with h1 | h1
  · rw [Int.min_eq_left h1]
    exact ⟨by omega, fun k => by omega⟩
  · rw [Int.min_eq_right h1]
    exact ⟨by omega, fun k => by omega⟩
theorem tickN_or (h : now ≤ to) : (to ≤ now + 64 ∧ (tickN now to : Int) = to - now) ∨ (now + 64 ≤ to ∧ tickN now to = 64) := by
  unfold tickN
  rcases Int.le_total to (now + 64) with h1 | h1
  · rw [Int.min_eq_left h1]
    exact .inl ⟨h1, by omega⟩
  · rw [Int.min_eq_right h1]
    exact .inr ⟨h1, by omega⟩
theorem adv_turn (h : WhP w p now mv S lv T (soonL D (now + 64)) (lateL D (now + 64))) (hd : OkD now D) (hto : now ≤ to) (hb : w'.heap[p]? = some (.cells (whL now mv (turnS S now (tickN now to)) lv).toArray 65 (0, 0))) (ht : TouchW w w' p none none) :
    WhP w' p now mv (turnS S now (tickN now to)) lv T (soonL (D.drop (cutN to D)) (now + 64)) (lateL D (now + 64)) ∧ StW w w' (OwnWh p mv S lv) (OwnWh p mv (turnS S now (tickN now to)) lv) := by
  refine h.setP hb (by rw [turnS_len, h.sl]) (fun r hr => ?_) ht
  rw [soon_rest hd.rises (fun q hq => (hd.low q hq).1) hto (tickN_or hto) hr]
  by_cases e : ∃ i, i < tickN now to ∧ resN now i = r
  · rw [if_pos e]
    exact .inr ⟨turnS_new S now r (by rw [h.sl]; exact hr) _ e, rfl⟩
  · rw [if_neg e]
    exact .inl ⟨turnS_old S now r _ (fun i hi h2 => e ⟨i, hi, h2⟩), rfl⟩
/-- a key goes. -/
theorem adv_del {b : Nat} {o : Obj} {SL : Nat → List Int} {LL : List (Int × Int)} {q : Int × Int} {E : List (Int × Int)} (h : WhP w p now (.map (some b)) S lv T SL LL) (ht : TimesOk T (q :: E)) (hd : ((q :: E).map Prod.fst).Nodup) (hs : MapS (w.putObj b o) b (dropK q.1 T)) :
    WhP (w.putObj b o) p now (.map (some b)) S lv (dropK q.1 T) SL LL ∧ StW w (w.putObj b o) (OwnWh p (.map (some b)) S lv) (OwnWh p (.map (some b)) S lv) ∧ TimesOk (dropK q.1 T) E := by
  obtain ⟨h1, h2⟩ := h.setM rfl hs
  refine ⟨h1, h2, ?_⟩
  have := ht.drop hd (List.mem_cons_self)
  have e : dropD q.1 (q :: E) = E := by
    simp only [List.map_cons, List.nodup_cons] at hd
    unfold dropD
    rw [List.filter_cons_of_neg (by simp), List.filter_eq_self]
    intro r hr
    have : r.1 ≠ q.1 := fun e => hd.1 (List.mem_map.2 ⟨r, hr, e⟩)
    simpa using this
  rwa [e] at this
/-- the clock is set. -/
theorem adv_now {SL : Nat → List Int} {LL : List (Int × Int)} (h : WhP w p now mv S lv T SL LL) :
    WhP (w.setCell ⟨p, 0, none⟩ (.int .i64 to)) p to mv S lv T SL LL ∧ StW w (w.setCell ⟨p, 0, none⟩ (.int .i64 to)) (OwnWh p mv S lv) (OwnWh p mv S lv) := by
  have hg := grown_cell (i := 0) h.blk (.int .i64 to)
  exact h.setP (by rw [setCell_block h.blk]; rfl) h.sl (fun r hr => .inl ⟨rfl, rfl⟩) ⟨hg.os, hg.tape, hg.output, hg.size, fun k hk h1 _ => hg.block k hk (by simpa using h1), .inl rfl⟩
end
/-- what becomes soon: all of it, and what of it is soon already. -/
def nearD (D : List (Int × Int)) (to : Int) : List (Int × Int) := D.filter (fun q => decide (q.2 ≤ to + 64))
theorem near_split {D : List (Int × Int)} {lim to : Int} (h : D.Pairwise ltD) (hl : lim ≤ to + 64) : nearD D to = D.filter (fun q => decide (q.2 ≤ lim)) ++ (lateL D lim).take (cutN (to + 64) (lateL D lim)) ∧ (lateL D lim).drop (cutN (to + 64) (lateL D lim)) = lateL D (to + 64) := by
  have hs : (lateL D lim).Pairwise ltD := h.filter _
  rw [(cut_take (to + 64) hs).1, (cut_take (to + 64) hs).2]
  unfold nearD lateL
  rw [filter_split h hl, List.filter_filter, List.filter_filter]
  refine ⟨?_, ?_⟩
  · congr 1
    refine List.filter_congr fun q _ => ?_
    rw [Bool.and_comm]
  · refine List.filter_congr fun q _ => ?_
    rw [Bool.eq_iff_iff]
    simp only [Bool.and_eq_true, decide_eq_true_eq]
    omega
theorem rows_step {G : List (Int × Int)} {to : Int} (h : G.Pairwise ltD) (hlow : ∀ y ∈ G, to < y.2 ∧ y.2 ≤ to + 64) {n : Nat} {q : Int × Int} (hq : G[n]? = some q) (r : Nat) :
    rowsD (G.take (n + 1)) r = if q.2 % 64 = (r : Int) then insL ltZ q.1 (rowsD (G.take n) r) else rowsD (G.take n) r := by
  have e : G.take (n + 1) = G.take n ++ [q] := by rw [List.take_add_one, hq]; rfl
  rw [e]
  refine rowsD_add (by rw [← e]; exact h.sublist (List.take_sublist _ _)) (fun y hy => hlow y ?_) r
  rw [← e] at hy
  exact List.mem_of_mem_take hy
theorem rowsD_rises {G : List (Int × Int)} {to : Int} (h : G.Pairwise ltD) (hlow : ∀ y ∈ G, to < y.2 ∧ y.2 ≤ to + 64) (r : Nat) : (rowsD G r).Pairwise ltZ := by
  unfold rowsD
  rw [List.pairwise_map]
  refine List.Pairwise.imp_of_mem ?_ (h.filter _)
  intro a b ha hb hab
  rw [List.mem_filter] at ha hb
  have h1 := hlow a ha.1
  have h2 := hlow b hb.1
  have h3 := ha.2
  have h4 := hb.2
  simp only [decide_eq_true_eq] at h3 h4
  unfold ltD at hab
  unfold ltZ
  omega
theorem rowsD_len {G : List (Int × Int)} (r : Nat) : (rowsD G r).length ≤ G.length := by
  unfold rowsD; rw [List.length_map]; exact List.length_filter_le _ _
end Go.Proofs.Ytjdedlmphghpnaa
