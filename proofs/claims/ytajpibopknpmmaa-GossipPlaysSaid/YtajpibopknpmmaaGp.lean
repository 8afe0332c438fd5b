/-
  The law's own fixed calls: known, of gossip.
-/
import Derived.Test.YtajpibopknpmmaaGm
import Derived.Test.YtajpibopknpmmaaGn
import Derived.Test.YtajpibopknpmmaaLent
import Derived.Lib.SlBytesConst
namespace Go.Proofs.Ytajpibopknpmmaa
open Go.RowKit
set_option maxRecDepth 100000
set_option linter.unusedVariables false
set_option linter.unusedSimpArgs false

/-- a queue whose blocks are all there. -/
def QueT (w : World) (q mb : Nat) (most : Int) (L : List (Int × Nw)) : Prop := ∃ S, QueS w q mb most L S ∧ ∀ g, S g → g < w.heap.size ∧ g ≠ mb
theorem QueT.below {w w' : World} {q mb : Nat} {most : Int} {L : List (Int × Nw)} (h : QueT w q mb most L) (hb : Below w.heap.size w w') : QueT w' q mb most L := by
  obtain ⟨S, h1, h2⟩ := h
  exact ⟨S, h1.below hb (Nat.le_refl _), fun g hg => ⟨Nat.lt_of_lt_of_le (h2 g hg).1 hb.size, (h2 g hg).2⟩⟩
theorem QueT.lt {w : World} {q mb : Nat} {most : Int} {L : List (Int × Nw)} (h : QueT w q mb most L) : q < w.heap.size ∧ mb < w.heap.size := by
  obtain ⟨S, h1, h2⟩ := h
  exact h1.lt
theorem QueT.ok {w : World} {q mb : Nat} {most : Int} {L : List (Int × Nw)} (h : QueT w q mb most L) : OkQ L := by
  obtain ⟨S, h1, h2⟩ := h
  exact h1.ok
theorem below_turnQ {w0 w w' : World} {b : Nat} (h : Below w0.heap.size w0 w) (hg : w.grownBy w' (some b)) (hb : w0.heap.size ≤ b) : Below w0.heap.size w0 w' :=
  h.grown hg h.size (fun j hj => by cases hj; exact hb)
theorem putT_any (w : World) (q mb : Nat) (most : Int) (L : List (Int × Nw)) (k : Int) (d : List UInt8) (A : Option Addr) (c : Nat) (t : Int) (h : QueT w q mb most L) (hk : -9223372036854775808 ≤ k ∧ k ≤ 9223372036854775807) (hd : Byt w w.heap.size A d) (hdl : d.length ≤ 140737488355328) :
    Calls Try.prog 12 #[.pointer (some ⟨q, 0, none⟩), .int .i64 k, .slice A d.length c, .int .i64 t] w fun e w' => e = .returned (.int .i64 (putE most L k d t)) ∧ QueT w' q mb most (putL most L k d t) ∧ w.grownBy w' (some mb) := by
  obtain ⟨S, h1, h2⟩ := h
  refine (putQ_any w q mb most L S k d A c t h1 h2 hk hd hdl).mono fun e w' hh => ?_
  obtain ⟨he, hq, hg⟩ := hh
  refine ⟨he, ⟨_, hq, fun g hgs => ?_⟩, hg⟩
  rcases hgs with hgs | hgs
  · exact ⟨Nat.lt_of_lt_of_le (h2 g hgs).1 hg.size, (h2 g hgs).2⟩
  · exact ⟨hgs.2, by have := h1.lt.2; omega⟩
theorem pickT_any (w : World) (q mb : Nat) (most : Int) (L : List (Int × Nw)) (room : Int) (h : QueT w q mb most L) (hlen : L.length ≤ 4096) (hroom : -9223372036854775808 ≤ room ∧ room ≤ 9223372036854775807) :
    Calls Try.prog 16 #[.pointer (some ⟨q, 0, none⟩), .int .i64 room] w fun e w' =>
      ∃ A c, e = .returned (.slice A (tellQ L room).1.length c) ∧ NwsS w' w.heap.size A (tellQ L room).1 ∧ QueT w' q mb most (tellQ L room).2 ∧ w.grownBy w' (some mb) := by
  obtain ⟨S, h1, h2⟩ := h
  refine (pickQ_any w q mb most L S room h1 hlen h2 hroom).mono fun e w' hh => ?_
  obtain ⟨v, he, hn, hq, hg⟩ := hh
  obtain ⟨A, c, ev, -, hs⟩ := hn.nws.slice
  exact ⟨A, c, by rw [he, ev], hs, ⟨S, hq, fun g hgs => ⟨Nat.lt_of_lt_of_le (h2 g hgs).1 hg.size, (h2 g hgs).2⟩⟩, hg⟩
theorem takenT_any (w : World) (A : Option Addr) (c : Nat) (l : List (Int × List UInt8)) (base : Nat) (h : NwsS w base A l) (hlen : l.length ≤ 4096) (hbase : base ≤ w.heap.size) :
    Calls Try.prog 18 #[.slice A l.length c] w fun e w' => ∃ A' c', e = .returned (.slice A' l.length c') ∧ NwsS w' base A' l ∧ Below w.heap.size w w' := by
  refine (taken15_any w A c l base h hlen hbase).mono fun e w' hh => ?_
  obtain ⟨v, he, hn, hb⟩ := hh
  obtain ⟨A', c', ev, -, hs⟩ := hn.slice
  exact ⟨A', c', by rw [he, ev], hs, hb⟩
/-- one order alone is it. -/
theorem ordQ_is {L : List (Int × Nw)} {ks ks' : List Int} (hp : ks'.Perm ks) (hs : ks'.Pairwise (fun x y => ¬ cmpQ L y x < 0)) : ordQ L ks = ks' := by
  refine List.Perm.eq_of_pairwise (le := fun a b => ¬ cmpQ L b a < 0) (fun a b _ _ h1 h2 => ?_) (ordQ_sorted L ks) hs ((ordQ_perm L ks).trans hp.symm)
  rw [cmpQ_neg] at h1 h2
  omega
def gL1 : List (Int × Nw) := [(1, ([97, 98], 2))]
def gL2 : List (Int × Nw) := [(1, ([97, 98], 2)), (2, ([99], 3))]
def gL3 : List (Int × Nw) := [(1, ([97, 98], 1)), (2, ([99], 2))]
def gL4 : List (Int × Nw) := [(1, ([97, 98], 1)), (2, ([99], 1))]
theorem g_put1 : putE 9 [] 1 [97, 98] 2 = 0 ∧ putL 9 [] 1 [97, 98] 2 = gL1 := by decide
theorem g_put2 : putE 9 gL1 2 [99] 3 = 0 ∧ putL 9 gL1 2 [99] 3 = gL2 := by decide
theorem g_pick1 : tellQ gL2 3 = ([(2, [99]), (1, [97, 98])], gL3) := by
  unfold tellQ
  rw [ordQ_is (ks' := [2, 1]) (by decide) (by decide)]
  decide
theorem g_pick2 : tellQ gL3 1 = ([(2, [99])], gL4) := by
  unfold tellQ
  rw [ordQ_is (ks' := [2, 1]) (by decide) (by decide)]
  decide
theorem g_times : timesN 3 = 6 ∧ timesN 4 = 9 := by decide
set_option maxHeartbeats 8000000 in
theorem known15_any (w : World) : Calls Try.prog 10 #[] w (RetV w (.bool true)) := by
  go_enter Try.func10, Try.ntmps10
  go_wp2_with fail
  refine (newQ_any w 9).mono ?_
  rintro e w1 ⟨hbel, ⟨-, q, mb, rfl, hq, hb, hv⟩ | ⟨hno, -⟩⟩
  rotate_left
  · exact absurd ⟨by decide, by decide⟩ hno
  have HB := hide hbel
  have HV : Hid (QueT w1 q mb 9 []) := hide ⟨_, hv, fun g hg => hg.elim⟩
  have HG := hide hb
  clear hbel hv hq hb
  dsimp only
  have kc1 := Lib.run_convert_bytes_const (P := Try.prog) w1 30 5 #[.int .u8 97, .int .u8 98] 2 2 Try.underlying30 Try.underlying5
  have KP1 : Hid (∀ W, Below w1.heap.size w1 W → ∀ A c, Byt W W.heap.size A [97, 98] → Calls Try.prog 12 #[.pointer (some ⟨q, 0, none⟩), .int .i64 1, .slice A 2 c, .int .i64 2] W fun e w' => e = .returned (.int .i64 0) ∧ QueT w' q mb 9 gL1 ∧ W.grownBy w' (some mb)) := hide (fun W hW A c hA => by
    have := putT_any W q mb 9 [] 1 [97, 98] A c 2 (HV.out.below hW) (by decide) hA (by decide)
    rw [g_put1.1, g_put1.2] at this
    exact this)
  go_wp2_with fail
  have K1 := KP1.out (w1.alloc (.cells #[.int .u8 97, .int .u8 98] 5 (2, 3))) ((Below.refl _ w1).alloc (Nat.le_refl _) _) (some ⟨w1.heap.size, 0, none⟩) 2 (by
    have := Byt.lit w1 [97, 98] #[.int .u8 97, .int .u8 98] 5 (2, 3) (by simp [byteV])
    rw [World.size_alloc]; exact this)
  refine K1.mono ?_
  rintro e w2 ⟨rfl, hv, hg⟩
  replace HB := hide (below_turnQ (HB.out.alloc HB.out.size _) hg HG.out)
  replace HV := hide hv
  clear hv hg KP1 K1 kc1
  dsimp only
  have kc2 := Lib.run_convert_bytes_const (P := Try.prog) w2 30 5 #[.int .u8 99] 1 1 Try.underlying30 Try.underlying5
  have KP2 : Hid (∀ W, Below w2.heap.size w2 W → ∀ A c, Byt W W.heap.size A [99] → Calls Try.prog 12 #[.pointer (some ⟨q, 0, none⟩), .int .i64 2, .slice A 1 c, .int .i64 3] W fun e w' => e = .returned (.int .i64 0) ∧ QueT w' q mb 9 gL2 ∧ W.grownBy w' (some mb)) := hide (fun W hW A c hA => by
    have := putT_any W q mb 9 gL1 2 [99] A c 3 (HV.out.below hW) (by decide) hA (by decide)
    rw [g_put2.1, g_put2.2] at this
    exact this)
  go_wp2_with fail
  have K2 := KP2.out (w2.alloc (.cells #[.int .u8 99] 5 (1, 2))) ((Below.refl _ w2).alloc (Nat.le_refl _) _) (some ⟨w2.heap.size, 0, none⟩) 1 (by
    have := Byt.lit w2 [99] #[.int .u8 99] 5 (1, 2) (by simp [byteV])
    rw [World.size_alloc]; exact this)
  refine K2.mono ?_
  rintro e w3 ⟨rfl, hv, hg⟩
  replace HB := hide (below_turnQ (HB.out.alloc HB.out.size _) hg HG.out)
  replace HV := hide hv
  clear hv hg KP2 K2 kc2
  dsimp only
  have HMB := hide HV.out.lt.2
  have KQ := pickT_any w3 q mb 9 gL2 3 HV.out (by decide) (by decide)
  rw [g_pick1] at KQ
  go_wp2_with fail
  refine KQ.mono ?_
  rintro e w4 ⟨A4, c4, rfl, hs, hv, hg⟩
  replace HB := hide (below_turnQ HB.out hg HG.out)
  replace HV := hide hv
  have KT := takenT_any w4 A4 c4 _ w3.heap.size hs (by decide) hg.size
  clear hv hg KQ hs
  dsimp only at KT ⊢
  go_wp2_with fail
  refine KT.mono ?_
  rintro e w5 ⟨A5, c5, rfl, hs5, hb5⟩
  replace HB := hide (HB.out.trans (hb5.mono HB.out.size))
  replace HV := hide (HV.out.below hb5)
  have HS5 := hide hs5
  clear hs5 hb5 KT
  dsimp only
  have MB := hide (show mb < w3.heap.size from HMB.out)
  have KQ := pickT_any w5 q mb 9 gL3 1 HV.out (by decide) (by decide)
  rw [g_pick2] at KQ
  go_wp2_with fail
  refine KQ.mono ?_
  rintro e w6 ⟨A6, c6, rfl, hs6, hv, hg⟩
  replace HB := hide (below_turnQ HB.out hg HG.out)
  have HS6 := hide (HS5.out.grown hg MB.out)
  have KT := takenT_any w6 A6 c6 _ w5.heap.size hs6 (by decide) hg.size
  clear hv hg KQ hs6 HS5 HV MB
  dsimp only at KT ⊢
  go_wp2_with fail
  refine KT.mono ?_
  rintro e w7 ⟨A7, c7, rfl, hs7, hb7⟩
  replace HB := hide (HB.out.trans (hb7.mono HB.out.size))
  have HS7 := hide (HS6.out.below hb7)
  clear hb7 KT HS6
  dsimp only
  obtain ⟨b5, rfl, -, -, hx⟩ := HS7.out (by decide)
  obtain ⟨b7, rfl, -, -, hy⟩ := hs7 (by decide)
  have x0 := (hx 0 (by decide)).1
  obtain ⟨-, D, cD, x1, -, xD, -⟩ := hx 1 (by decide)
  have y0 := (hy 0 (by decide)).1
  change w7.cell? ⟨b5, 0, none⟩ = some (.int .i64 2) at x0
  change w7.cell? ⟨b5, 3, none⟩ = some (.slice D 2 cD) at x1
  change w7.cell? ⟨b7, 0, none⟩ = some (.int .i64 2) at y0
  change Byt w7 w7.heap.size D [97, 98] at xD
  clear hx hy HS7 hs7
  have X0 : ∀ p : BW w7, p.w.cell? ⟨b5, 0, none⟩ = some (.int .i64 2) := fun p => p.cell x0
  have X1 : ∀ p : BW w7, p.w.cell? ⟨b5, 3, none⟩ = some (.slice D 2 cD) := fun p => p.cell x1
  have Y0 : ∀ p : BW w7, p.w.cell? ⟨b7, 0, none⟩ = some (.int .i64 2) := fun p => p.cell y0
  have XC : ∀ p : BW w7, (convert 30 9 (.slice D 2 cD)).run Try.prog p.w = .ok (.string ⟨#[97, 98]⟩) p.w := fun p => conv_any D cD [97, 98] _ p.w (xD.below p.below)
  have T3 := hide (fun p : BW w7 => (by
    have := times_any p.w 3 (by decide)
    rw [g_times.1] at this
    exact this.mono fun e w' hh => ⟨hh.1, by rw [hh.2]; exact Below.refl _ _⟩ : Calls Try.prog 23 #[.int .i64 3] p.w (RetV p.w (.int .i64 6))))
  have T4 := hide (fun p : BW w7 => (by
    have := times_any p.w 4 (by decide)
    rw [g_times.2] at this
    exact this.mono fun e w' hh => ⟨hh.1, by rw [hh.2]; exact Below.refl _ _⟩ : Calls Try.prog 23 #[.int .i64 4] p.w (RetV p.w (.int .i64 9))))
  clear x0 x1 y0 xD
  go_upto_region 8 with (fail)
  first | refine wp_region_belowS w7 (Below.refl _ _) ?_ | refine wp_region_below w7 (Below.refl _ _) (by kernel_rfl) (by kernel_rfl) ?_
  try simp only [List.append_eq, List.cons_append, List.nil_append]
  repeat
    first
    | (go_big_quiet_step (first
    | ((go_at_call 23; with_reducible exact Calls.bel (T3.out _)))
    | ((go_at_call 23; with_reducible exact Calls.bel (T4.out _)))
    | fail))
  refine wpQuiet_nil ?_
  intro _ hw'
  obtain ⟨pq, hw''⟩ := hw'
  subst hw''
  go_wp2
  go_ret
  exact ⟨rfl, HB.out.trans (pq.below.mono HB.out.size)⟩
end Go.Proofs.Ytajpibopknpmmaa
