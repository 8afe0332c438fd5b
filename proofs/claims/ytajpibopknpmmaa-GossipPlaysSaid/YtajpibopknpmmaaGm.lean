/-
  What was told, as the law has it: taken.
-/
import Derived.Test.YtajpibopknpmmaaGl
import Derived.Deep.AppendLies
namespace Go.Proofs.Ytajpibopknpmmaa
open Go.RowKit
set_option maxRecDepth 100000
set_option linter.unusedVariables false
set_option linter.unusedSimpArgs false

/-- what was told, as it reads. -/
def NwsC (w : World) (base : Nat) : List Value → List (Int × List UInt8) → Prop
  | [], [] => True
  | a :: b :: s, p :: t => a = .int .i64 p.1 ∧ (∃ D c, b = .slice D p.2.length c ∧ p.2.length ≤ c ∧ Byt w w.heap.size D p.2 ∧ ∀ a, D = some a → base ≤ a.block) ∧ NwsC w base s t
  | _, _ => False
theorem NwsC.mono {w w' : World} {base : Nat} (hk : ∀ D l, Byt w w.heap.size D l → (∀ a, D = some a → base ≤ a.block) → Byt w' w'.heap.size D l) : ∀ {cs : List Value} {l : List (Int × List UInt8)}, NwsC w base cs l → NwsC w' base cs l
  | [], [], _ => trivial
  | a :: b :: s, p :: t, h => ⟨h.1, by obtain ⟨D, c, e, h1, h2, h3⟩ := h.2.1; exact ⟨D, c, e, h1, hk _ _ h2 h3, h3⟩, NwsC.mono hk h.2.2⟩
  | [], _ :: _, h => h.elim
  | [_], _, h => by unfold NwsC at h; exact h.elim
  | _ :: _ :: _, [], h => h.elim
theorem NwsC.snoc {w : World} {base : Nat} {k : Int} {D : Option Addr} {c : Nat} {d : List UInt8} (hc : d.length ≤ c) (hb : Byt w w.heap.size D d) (hD : ∀ a, D = some a → base ≤ a.block) : ∀ {cs : List Value} {l : List (Int × List UInt8)}, NwsC w base cs l → NwsC w base (cs ++ [.int .i64 k, .slice D d.length c]) (l ++ [(k, d)])
  | [], [], _ => ⟨rfl, ⟨D, c, rfl, hc, hb, hD⟩, trivial⟩
  | a :: b :: s, p :: t, h => ⟨h.1, h.2.1, NwsC.snoc hc hb hD h.2.2⟩
  | [], _ :: _, h => h.elim
  | [_], _, h => by unfold NwsC at h; exact h.elim
  | _ :: _ :: _, [], h => h.elim
theorem NewsC.nws {w : World} {base : Nat} : ∀ {cs : List Value} {l : List (Int × List UInt8)}, NewsC w base cs l → NwsC w base cs l
  | [], [], _ => trivial
  | a :: b :: s, p :: t, h => ⟨h.1, by obtain ⟨A, c, e, h1, h2, -, h3⟩ := h.2.1.shape; exact ⟨A, c, e, h1, h2, fun a ha => (h3 a ha).1⟩, NewsC.nws h.2.2⟩
  | [], _ :: _, h => h.elim
  | [_], _, h => by unfold NewsC at h; exact h.elim
  | _ :: _ :: _, [], h => h.elim
theorem NwsC.get {w : World} {base : Nat} : ∀ {cs : List Value} {l : List (Int × List UInt8)}, NwsC w base cs l → ∀ j (hj : j < l.length), cs[j * 2]? = some (.int .i64 l[j].1) ∧ ∃ D c, cs[j * 2 + 1]? = some (.slice D l[j].2.length c) ∧ l[j].2.length ≤ c ∧ Byt w w.heap.size D l[j].2 ∧ ∀ a, D = some a → base ≤ a.block
  | [], [], _, j, hj => absurd hj (by simp)
  | a :: b :: s, p :: t, h, 0, hj => by
    obtain ⟨D, c, e, h1, h2⟩ := h.2.1
    exact ⟨by rw [h.1]; rfl, D, c, by rw [e]; rfl, h1, h2⟩
  | a :: b :: s, p :: t, h, j + 1, hj => by
    have := NwsC.get h.2.2 j (by simpa using hj)
    rw [show (j + 1) * 2 = j * 2 + 1 + 1 by omega]
    simpa using this
  | [], _ :: _, h, _, _ => h.elim
  | [_], _, h, _, _ => by unfold NwsC at h; exact h.elim
  | _ :: _ :: _, [], h, _, _ => h.elim
def NwsR (w : World) (base t : Nat) (v : Value) (l : List (Int × List UInt8)) : Prop := ∃ cs, w.ownsRow base t 2 v l.length cs ∧ NwsC w base cs l
theorem NewsR.nws {w : World} {base : Nat} {v : Value} {l : List (Int × List UInt8)} (h : NewsR w base v l) : NwsR w base 44 v l := by
  obtain ⟨cs, h1, h2⟩ := h
  exact ⟨cs, h1, h2.nws⟩
/-- as a slice reads. -/
def NwsS (w : World) (base : Nat) (A : Option Addr) (l : List (Int × List UInt8)) : Prop :=
  0 < l.length → ∃ b, A = some ⟨b, 0, none⟩ ∧ b < w.heap.size ∧ base ≤ b ∧ ∀ j (hj : j < l.length), w.cell? ⟨b, j * 2, none⟩ = some (.int .i64 l[j].1) ∧ ∃ D c, w.cell? ⟨b, j * 2 + 1, none⟩ = some (.slice D l[j].2.length c) ∧ l[j].2.length ≤ c ∧ Byt w w.heap.size D l[j].2 ∧ ∀ a, D = some a → base ≤ a.block
theorem NwsR.slice {w : World} {base t : Nat} {v : Value} {l : List (Int × List UInt8)} (h : NwsR w base t v l) : ∃ A c, v = .slice A l.length c ∧ l.length ≤ c ∧ NwsS w base A l := by
  obtain ⟨cs, h1, h2⟩ := h
  rcases h1.2 with ⟨rfl, h0⟩ | ⟨g, cap, cur, rfl, hb, hg, hn, hm, hsz, ht⟩
  · exact ⟨none, 0, by rw [h0], by omega, fun hp => by omega⟩
  · refine ⟨_, cap, rfl, hn, fun _ => ⟨g, rfl, (Array.getElem?_eq_some_iff.1 hg).1, hb, fun j hj => ?_⟩⟩
    obtain ⟨e1, D, c, e2, e3, e4⟩ := h2.get j hj
    have hcell : ∀ i, i < l.length * 2 → w.cell? ⟨g, i, none⟩ = cs[i]? := fun i hi => by
      rw [cell_of_row w g i _ _ (0, 0) hg, ← ht, List.getElem?_take, if_pos hi]
      exact (Array.getElem?_toList ..).symm
    exact ⟨(hcell _ (by omega)).trans e1, D, c, (hcell _ (by omega)).trans e2, e3, e4⟩
theorem NwsS.below {w w' : World} {base : Nat} {A : Option Addr} {l : List (Int × List UInt8)} (h : NwsS w base A l) (hb : Below w.heap.size w w') : NwsS w' base A l := fun hp => by
  obtain ⟨b, e, hlt, hle, hc⟩ := h hp
  refine ⟨b, e, Nat.lt_of_lt_of_le hlt hb.size, hle, fun j hj => ?_⟩
  obtain ⟨h1, D, c, h2, h3, h4, h5⟩ := hc j hj
  exact ⟨(hb.cell (p := ⟨b, _, none⟩) hlt).trans h1, D, c, (hb.cell (p := ⟨b, _, none⟩) hlt).trans h2, h3, (h4.below hb).more hb.size, h5⟩
theorem byt_grown {w w' : World} {r base : Nat} {D : Option Addr} {l : List UInt8} (h : Byt w w.heap.size D l) (hg : w.grownBy w' (some r)) (hr : r < base) (hD : ∀ a, D = some a → base ≤ a.block) : Byt w' w'.heap.size D l := fun hp => by
  obtain ⟨b, off, e, hb, hc⟩ := h hp
  refine ⟨b, off, e, Nat.lt_of_lt_of_le hb hg.size, fun i hi => ?_⟩
  have h1 := hc i hi
  have hbb := hD _ e
  dsimp only at hbb
  unfold World.cell? at h1 ⊢
  rw [hg.block b hb (fun e => by cases e; omega)]; exact h1
theorem NwsS.grown {w w' : World} {base r : Nat} {A : Option Addr} {l : List (Int × List UInt8)} (h : NwsS w base A l) (hg : w.grownBy w' (some r)) (hr : r < base) : NwsS w' base A l := fun hp => by
  obtain ⟨b, e, hlt, hle, hc⟩ := h hp
  have hh : w'.heap[b]? = w.heap[b]? := hg.block b hlt (fun e => by cases e; omega)
  have hcell : ∀ o, w'.cell? ⟨b, o, none⟩ = w.cell? ⟨b, o, none⟩ := fun o => by unfold World.cell?; rw [hh]
  refine ⟨b, e, Nat.lt_of_lt_of_le hlt hg.size, hle, fun j hj => ?_⟩
  obtain ⟨h1, D, c, h2, h3, h4, h5⟩ := hc j hj
  exact ⟨(hcell _).trans h1, D, c, (hcell _).trans h2, h3, byt_grown h4 hg hr h5, h5⟩
theorem info_rnews : (Try.prog.info? 63).map (fun i => (i.zero, i.size, i.bytes)) = some (some (.agg #[.int .i64 0, .slice none 0 0]), 2, 32) := by kernel_rfl
theorem built_rnews (k : Int) (A : Option Addr) (n c : Nat) : Try.prog.built 63 [(0, .int .i64 k), (1, .slice A n c)] = some #[.int .i64 k, .slice A n c] := by kernel_rfl
attribute [local go_sem ↓] exec_build
set_option maxHeartbeats 4000000 in
theorem taken15_any (w : World) (A : Option Addr) (c : Nat) (l : List (Int × List UInt8)) (base : Nat) (h : NwsS w base A l) (hlen : l.length ≤ 4096) (hbase : base ≤ w.heap.size) :
    Calls Try.prog 18 #[.slice A l.length c] w fun e w' => ∃ v, e = .returned v ∧ NwsR w' base 63 v l ∧ Below w.heap.size w w' := by
  obtain ⟨i0, hi0, hz0, hz1, hz2⟩ := info_parts info_rnews
  obtain ⟨n, hn⟩ : ∃ n, n = l.length := ⟨_, rfl⟩
  have hbu := built_rnews
  have HF : Hid (∀ v w' cs, w'.ownsRow w.heap.size 63 2 v n cs → NwsC w base cs (l.take n) → Below w.heap.size w w' → NwsR w' base 63 v l) := hide (fun v w' cs h1 h2 hb => by
    rw [hn] at h1 h2
    rw [List.take_length] at h2
    exact ⟨cs, row_mono h1 hbase, h2.mono fun D m h _ => (h.below hb).more hb.size⟩)
  have HS := hide h
  rw [← hn] at hlen ⊢
  have HN := hide hn
  clear h hn
  go_enter Try.func18, Try.ntmps18
  go_wp2
  go_loopw [3, 4] (fun v i wr => ∃ (j : Nat), j ≤ n ∧ i = .int .i64 (j : Int) ∧ Hid (∃ cs, wr.ownsRow w.heap.size 63 2 v j cs ∧ NwsC w base cs (l.take j)) ∧ Hid (Below w.heap.size w wr)) (fun _ i _ => n - (Go.RowKit.intOf i).toNat)
  case atStart => exact ⟨0, by omega, rfl, hide ⟨[], World.ownsRow_nil _ _ _ _, by simp [NwsC]⟩, hide (Below.refl _ _)⟩
  case round =>
    obtain ⟨j, hj, rfl, hO, hB⟩ := hrel
    by_cases hlt : j < n
    · have hjl : j < l.length := by rw [← HN.out]; exact hlt
      obtain ⟨b, rfl, hbB, -, hcell⟩ := HS.out (by omega)
      obtain ⟨h1, D, cD, h2, h3, h4, h5⟩ := hcell j hjl
      obtain ⟨cs, hrow, hnw⟩ := hO.out
      have HT : Hid (NwsC w base (cs ++ [.int .i64 l[j].1, .slice D l[j].2.length cD]) (l.take (j + 1))) := hide (by
        rw [List.take_succ_eq_append_getElem hjl]
        exact NwsC.snoc h3 h4 h5 hnw)
      obtain ⟨k, hk⟩ : ∃ k, k = l[j].1 := ⟨_, rfl⟩
      obtain ⟨m, hm⟩ : ∃ m, m = l[j].2.length := ⟨_, rfl⟩
      rw [← hk, ← hm] at HT
      rw [← hk] at h1
      rw [← hm] at h2
      have k1 : wr.cell? ⟨b, j * 2, none⟩ = some (.int .i64 k) := (hB.out.cell (p := ⟨b, _, none⟩) hbB).trans h1
      have k2 : wr.cell? ⟨b, j * 2 + 1, none⟩ = some (.slice D m cD) := (hB.out.cell (p := ⟨b, _, none⟩) hbB).trans h2
      have HBL := hide (show b < wr.heap.size from Nat.lt_of_lt_of_le hbB hB.out.size)
      have hbsz := hB.out.size
      have hvne : u3.ownBlock ≠ some b := fun e => by have := (World.ownsRow.lt hrow b e).1; omega
      have HROW := hide hrow
      have HVNE := hide hvne
      have hj0 : (0 : Int) ≤ (j : Int) := by omega
      have hj1 : (j : Int) < (n : Int) := by omega
      have q1 : wr.drew.cell? ⟨b, j * 2, none⟩ = some (.int .i64 k) := k1
      have q2 : wr.drew.cell? ⟨b, j * 2 + 1, none⟩ = some (.slice D m cD) := k2
      have q3 : ∀ o, (wr.alloc o).drew.cell? ⟨b, j * 2, none⟩ = some (.int .i64 k) ∧ (wr.alloc o).drew.cell? ⟨b, j * 2 + 1, none⟩ = some (.slice D m cD) := fun o => ⟨(World.cell?_alloc_lt _ _ ⟨b, j * 2, none⟩ HBL.out).trans k1, (World.cell?_alloc_lt _ _ ⟨b, j * 2 + 1, none⟩ HBL.out).trans k2⟩
      clear hcell h1 h2 h3 h4 h5 hrow hnw hk hm hvne hO
      go_wp2
      go_region_held3 (fun w' => w'.cell? ⟨b, j * 2, none⟩ = some (.int .i64 k) ∧ w'.cell? ⟨b, j * 2 + 1, none⟩ = some (.slice D m cD))
        (first
          | exact ⟨q1, q2⟩
          | exact q3 _
          | go_keep
          | (go_split_ands
             refine ⟨?_, ?_⟩
             · (rw [hgrow.cell_far _ (by simp; have := HBL.out; omega) (Ne.symm HVNE.out)]; exact (q3 _).1)
             · (rw [hgrow.cell_far _ (by simp; have := HBL.out; omega) (Ne.symm HVNE.out)]; exact (q3 _).2))
          | fail)
        ((refine step_append_lies _ (by rfl) _ _ _ (by rfl) w.heap.size 63 i0 _ 2 32 Try.underlying40 hi0 hz0 hz1 hz2 rfl (by omega) u3 j cs (by rfl) ((World.ownsRow.alloc HROW.out _).drew)
            ⟨wr.heap.size, 0, none⟩ 1 1 [.int .i64 k, .slice D m cD] (by rfl) (by rfl) (World.news_of_block (cs := #[.int .i64 k, .slice D m cD]) (t := 63) (fr := (0, 0)) (heap_alloc_new wr _)) (by simp [Value.oneCell'])
            (by omega) (by unfold maxLen; omega) (by omega) (by simp; omega) (wr.heap.size + 1) (by simp) ?_; intro gg cap w4 hown4 hgrow hat hlt4))
      have HO5 : Hid (∃ cs, w4.ownsRow w.heap.size 63 2 (.slice (some ⟨gg, 0, none⟩) (j + 1) cap) (j + 1) cs ∧ NwsC w base cs (l.take (j + 1))) := hide ⟨_, hown4, HT.out⟩
      have HB5 : Hid (Below w.heap.size w w4) := hide ((hB.out.alloc hbsz _).drew.grown hgrow (by simp; omega) (fun k hk => (World.ownsRow.lt HROW.out k hk).1))
      clear hown4 hgrow hat hlt4 k1 k2 q1 q2 q3
      go_wp2
      go_roundw
      case rel => exact ⟨j + 1, by omega, by go_num, HO5, HB5⟩
      case measure => simp [Go.RowKit.intOf]; omega
    · obtain rfl : j = n := by omega
      obtain ⟨cs, h1, h2⟩ := hO.out
      have HR := hide (HF.out _ _ cs h1 h2 hB.out)
      clear h1 h2 hlt
      go_wp2
      go_ret
      exact ⟨_, rfl, HR.out, hB.out⟩
end Go.Proofs.Ytajpibopknpmmaa
