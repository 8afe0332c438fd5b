/-
  The walk of the statement CursorRuns: true; nothing that was there is written.
-/
import Derived.Test.YtgbmamahkpkdfaaRq
import Derived.Test.YtgbmamahkpkdfaaSpl
import Derived.Test.YtgbmamahkpkdfaaKnownC
import Derived.Test.YtgbmamahkpkdfaaMorem
namespace Go.Proofs.Ytgbmamahkpkdfaa
open Go.RowKit
set_option maxRecDepth 100000
set_option linter.unusedVariables false

theorem OwnX.ne {w : World} {base base' : Nat} {v vv : Value} {n m s : Nat} {t : TypeId} {xs : List Value} (h : OwnX w base v n) (h' : w.ownsRow base' t s vv m xs) (hne : t ≠ 5) : vv.ownBlock = none ∨ vv.ownBlock ≠ v.ownBlock := by
  rcases h with ⟨rfl, _⟩ | ⟨g, cap, cur, rfl, _, hg, _⟩
  · rcases h'.2 with ⟨rfl, _⟩ | ⟨g', cap', cur', rfl, _⟩
    · exact .inl rfl
    · exact .inr (by simp [Value.ownBlock])
  · exact own_ne h' hg hne
theorem OwnX.slice {w : World} {base : Nat} {v : Value} {n : Nat} (h : OwnX w base v n) : ∃ A c, v = .slice A n c := by
  rcases h with ⟨rfl, rfl⟩ | ⟨g, cap, cur, rfl, _⟩
  · exact ⟨none, 0, rfl⟩
  · exact ⟨_, _, rfl⟩
theorem OwnX.below {w w' : World} {base : Nat} {v : Value} {n : Nat} (h : OwnX w base v n) (hb : Below w.heap.size w w') : OwnX w' base v n := by
  rcases h with h | ⟨g, cap, cur, rfl, hbb, hg, hn, hs⟩
  · exact .inl h
  · exact .inr ⟨g, cap, cur, rfl, hbb, (hb.block g (Array.getElem?_eq_some_iff.1 hg).1).trans hg, hn, hs⟩
theorem OwnX.at {w : World} {base : Nat} {v : Value} {n : Nat} (h : OwnX w base v n) : ∀ k, v.ownBlock = some k → base ≤ k := fun k hk => by
  rcases h with ⟨rfl, rfl⟩ | ⟨g, cap, cur, rfl, hb, _⟩
  · simp [Value.ownBlock] at hk
  · simp [Value.ownBlock] at hk; omega
theorem OwnW.reads {w : World} {base : Nat} {vv : Value} {items : List VItem} (h : OwnW w base vv items) : ∃ A c, vv = .slice A items.length c ∧ RdV w w.heap.size A items ∧ RdB w w.heap.size items := by
  obtain ⟨A, c, e, hr⟩ := row_reads h.row
  refine ⟨A, c, e, hr, fun it hit => ?_⟩
  obtain ⟨A', c', e1, hl, hby, _, _⟩ := (h.each it hit).shape
  exact ⟨A', c', e1, hl, hby⟩

set_option maxHeartbeats 4000000 in
theorem cursorRuns_any (A Al : Option Addr) (c cl : Nat) (l : List UInt8) (ops : List (Int × Int)) (w : World) (hl : l.length ≤ c) (hlen : l.length ≤ 140737488355320)
    (hb : Byt w w.heap.size A l) (hnil : A = none → c = 0) (hops : Ops w w.heap.size Al ops) (hno : ops.length ≤ 1099511627776) :
    Calls Try.prog 3 #[.slice A l.length c, .slice Al ops.length cl] w fun e w' => e = .returned (.bool true) ∧ Below w.heap.size w w' := by
  obtain ⟨res, hres⟩ : ∃ res, res = runS l ops 0 := ⟨_, rfl⟩
  have C1 := hide (lent_any A c l w.heap.size w hl hlen hb (Nat.le_refl _))
  have HB := hide hb
  have HOPS := hide hops
  have HLEN := hide hlen
  have HL := hide hl
  have HNIL := hide hnil
  have HLS : Hid ((runS l ops 0).1.length ≤ ops.length) := hide (runS_len (b := l) ops 0)
  clear hb hops hlen hl hnil
  go_enter Try.func3, Try.ntmps3
  go_wp2_with fail
  refine C1.out.mono ?_
  rintro e w1 ⟨rfl, hl1, hb1⟩
  have HL1 := hide hl1
  have HB1 := hide hb1
  have HG1 : Hid (w.heap.size < w1.heap.size) := hide hl1.lt
  have C2 := hide (ops_any w1 Al cl ops (by omega) (HOPS.out.keep hb1.size (fun p hp => hb1.cell hp)))
  clear C1 hl1 hb1
  go_wp2_with fail
  refine C2.out.mono ?_
  rintro e w2 ⟨v2, rfl, how2, hb2⟩
  obtain ⟨A2, c2, rfl, hops2, _⟩ := how2.shape
  have hl2 := HL1.out.below hb2 HG1.out
  have HL2 := hide hl2
  have HB2 := hide (HB1.out.trans (hb2.mono HB1.out.size))
  have HG2 : Hid (w.heap.size < w2.heap.size) := hide hl2.lt
  have C3 := run_any w2 (some ⟨w.heap.size, 0, none⟩) A2 l (l.length + 8) c2 ops (by omega) (by have := HLEN.out; omega) (hl2.byt hl2.lt) hops2 hno
  rw [← hres] at C3
  have HC3 := hide C3
  clear C2 C3 how2 hops2 hb2 hl2
  dsimp only
  go_wp2_with fail
  refine HC3.out.mono ?_
  rintro e w3 ⟨v3, it3, rfl, hov3, hit3, hb3⟩
  have HB23 := hide hb3
  have HB3 := hide (HB2.out.trans (hb3.mono HB2.out.size))
  have HO3 := hide hov3
  have HI3 := hide hit3
  have C4 := refrun_any w3 A Al l c cl ops HL.out (by have := HLEN.out; omega) ((HB.out.below HB3.out).more HB3.out.size) HNIL.out (HOPS.out.keep HB3.out.size (fun p hp => HB3.out.cell hp)) hno
  rw [← hres] at C4
  have HC4 := hide C4
  have HRES := hide hres
  clear HC3 C4 hov3 hit3 hb3 hres
  dsimp only
  go_wp2_with fail
  refine HC4.out.mono ?_
  rintro e w4 ⟨v4, it4, rfl, hov4, hit4, hb4⟩
  have HB34 := hide hb4
  have HB24 := hide (HB23.out.trans (hb4.mono HB23.out.size))
  obtain ⟨A4, c4, rfl, hrv4, hrb4⟩ := hov4.reads
  obtain ⟨A3, c3, rfl, hrv3, hrb3⟩ := HO3.out.reads
  have hrv3' := hrv3.keep HB34.out.size (fun p hp => HB34.out.cell hp)
  have hrb3' := hrb3.keep HB34.out.size (fun p hp => HB34.out.cell hp)
  have hil : it3.length ≤ 1099511627776 := by
    have e : it3.length = res.1.length := by rw [← HI3.out, List.length_map]
    have h := HLS.out
    rw [← HRES.out] at h
    omega
  have C5 := hide (told_any w4 A3 c3 it3 hil hrv3' hrb3')
  have HRV4 := hide hrv4
  have HRB4 := hide hrb4
  have HRB3 := hide hrb3'
  have HI34 := hide (HI3.out.trans hit4.symm)
  clear HC4 hov4 hit4 hb4 hrv4 hrb4 hrv3 hrb3 hrv3' hrb3'
  dsimp only
  go_wp2_with fail
  refine C5.out.mono ?_
  rintro e w5 ⟨t5, rfl, hr5, hb5⟩
  obtain ⟨A5, c5, rfl, hrd5⟩ := row_reads hr5
  have HB25 := hide (HB24.out.trans (hb5.mono HB24.out.size))
  have C6 := hide (same_any w5 A5 A4 c5 c4 it3 it4 HI34.out hil hrd5 (HRV4.out.keep hb5.size (fun p hp => hb5.cell hp)) (HRB3.out.keep hb5.size (fun p hp => hb5.cell hp)) (HRB4.out.keep hb5.size (fun p hp => hb5.cell hp)))
  have HB35 := hide (HB34.out.trans (hb5.mono HB34.out.size))
  clear C5 hr5 hrd5 hb5
  dsimp only
  go_wp2_with fail
  refine C6.out.mono ?_
  rintro e w6 ⟨rfl, q, rfl⟩
  obtain ⟨W6, hW6⟩ : ∃ W6, W6 = w5.drewN q := ⟨_, rfl⟩
  have HB26 : Hid (Below w2.heap.size w2 W6) := hide (by rw [hW6]; exact below_drewN HB25.out q)
  have HB36 : Hid (Below w3.heap.size w3 W6) := hide (by rw [hW6]; exact below_drewN HB35.out q)
  rw [← hW6]
  clear hW6 C6
  have hk6 := hide (kept_any A c w.heap.size l w.heap.size W6 HL.out HLEN.out ((HB.out.below HB2.out).below (HB26.out.mono HB2.out.size)) (HL2.out.below HB26.out HG2.out))
  have hrow6 : W6.ownsRow w2.heap.size 40 2 (.slice A3 it3.length c3) it3.length (itemCells it3) := HO3.out.row.kept (Below.row HB36.out none) (Classical.em _)
  have hx6 : ∀ it ∈ it3, OwnX W6 w2.heap.size it.v it.b.length := fun it hit => ((HO3.out.each it hit).x).below HB36.out
  have HROW := hide hrow6
  have HX6 := hide hx6
  clear hrow6 hx6
  dsimp only
  go_wp2_with fail
  refine hk6.out.mono ?_
  rintro e w7 ⟨rfl, rfl⟩
  go_wp2_with fail
  go_loopw [12] (fun i wr => ∃ j : Nat, j ≤ it3.length ∧ i = .int .i64 (j : Int) ∧ Hid (wr.ownsRow w2.heap.size 40 2 (.slice A3 it3.length c3) it3.length (itemCells it3)) ∧ Hid (∀ it ∈ it3, OwnX wr w2.heap.size it.v it.b.length) ∧ Hid (Below w2.heap.size w2 wr)) (fun i _ => it3.length - (intOf i).toNat)
  case atStart => exact ⟨0, by omega, rfl, HROW, HX6, HB26⟩
  case round =>
    obtain ⟨j, hj, rfl, hrow, hx, hbr⟩ := hrel
    by_cases hlt : j < it3.length
    · obtain ⟨A7, c7, e7, hrd⟩ := row_reads hrow.out
      simp only [Value.slice.injEq, true_and] at e7
      obtain ⟨rfl, rfl⟩ := e7
      obtain ⟨bb, off, rfl, _, hcell⟩ := hrd (by omega)
      obtain ⟨-, hc1⟩ := hcell j hlt
      have hxj := hx.out it3[j] (List.getElem_mem hlt)
      obtain ⟨Aj, cj, hv⟩ := hxj.slice
      rw [hv] at hc1 hxj
      obtain ⟨nj, hnj⟩ : ∃ n, n = it3[j].b.length := ⟨_, rfl⟩
      rw [← hnj] at hc1 hxj
      have HV : Hid (it3[j].v = .slice Aj nj cj) := hide (by rw [hnj]; exact hv)
      have CS := hide (spoil_any wr w2.heap.size Aj nj cj hxj)
      have HXJ := hide hxj
      have hj0 : (0 : Int) ≤ (j : Int) := by omega
      have hj1 : (j : Int) < (it3.length : Int) := by omega
      clear hcell hrd hv hxj hnj
      go_wp2_with fail
      refine CS.out.mono ?_
      rintro e w8 ⟨rfl, hg8, hx8⟩
      have H1 : Hid (w8.ownsRow w2.heap.size 40 2 (.slice (some ⟨bb, off, none⟩) it3.length c3) it3.length (itemCells it3)) := hide (hrow.out.kept hg8 (HXJ.out.ne hrow.out (by decide)))
      have H2 : Hid (∀ it ∈ it3, OwnX w8 w2.heap.size it.v it.b.length) := hide (fun it hit => HXJ.out.other hx8 hg8 (hx.out it hit))
      have H3 : Hid (Below w2.heap.size w2 w8) := hide (hbr.out.grown hg8 hbr.out.size HXJ.out.at)
      clear hg8 hx8 hc1
      dsimp only
      go_wp2
      go_roundw
      case rel => exact ⟨j + 1, by omega, by go_num, H1, H2, H3⟩
      case measure => simp [intOf]; omega
    · obtain rfl : j = it3.length := by omega
      have hk9 := hide (kept_any A c w.heap.size l w.heap.size wr HL.out HLEN.out ((HB.out.below HB2.out).below (hbr.out.mono HB2.out.size)) (HL2.out.below hbr.out HG2.out))
      have HKN := hide (knownC_any wr)
      clear hlt
      go_wp2_with fail
      refine hk9.out.mono ?_
      rintro e w9 ⟨rfl, rfl⟩
      go_wp2_with fail
      refine HKN.out.mono ?_
      rintro e w10 ⟨rfl, hb10⟩
      dsimp only
      go_wp2
      go_ret
      exact ⟨rfl, HB2.out.trans ((hbr.out.trans (hb10.mono hbr.out.size)).mono HB2.out.size)⟩
end Go.Proofs.Ytgbmamahkpkdfaa
