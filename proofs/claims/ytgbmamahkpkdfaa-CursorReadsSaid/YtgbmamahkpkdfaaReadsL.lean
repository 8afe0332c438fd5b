/-
  The walk of the statement CursorReads: true; nothing that was there is written.
-/
import Derived.Test.YtgbmamahkpkdfaaRu
import Derived.Test.YtgbmamahkpkdfaaSpl
import Derived.Test.YtgbmamahkpkdfaaKnownC
import Derived.Test.YtgbmamahkpkdfaaLay2
import Derived.Deep.CutBlock
import Derived.Deep.RegionWith
namespace Go.Proofs.Ytgbmamahkpkdfaa
open Go.RowKit
set_option maxRecDepth 100000
set_option linter.unusedVariables false

theorem Lentd.x {w : World} {g : Nat} {l : List UInt8} (h : Lentd w g l) (hl : l.length ≤ 140737488355320) : OwnX w g (.slice (some ⟨g, 0, none⟩) l.length (l.length + 8)) l.length :=
  .inr ⟨g, l.length + 8, _, rfl, Nat.le_refl _, h, by omega, by simp [length_markRow], by unfold maxLen; omega⟩

theorem RdS.far {g K : Nat} {A : Option Addr} {l : List UInt8} {c k : Nat} {er : Int} {w w' : World} {row : Option Nat} (h : RdS g A l c w k er) (hg : w.grownBy w' row) (hr : ∀ i, row = some i → K ≤ i) (hK : g < K) : RdS g A l c w' k er :=
  ⟨h.rd.grown hg (fun e => by have := hr g e; omega), fun hl => by
    obtain ⟨b, off, e, hb, hc⟩ := h.by' hl
    exact ⟨b, off, e, hb, fun i hi => hg.cell (hc i hi) (fun e => by have := hr b e.symm; omega)⟩, h.le⟩
theorem RrS.farr {g B K : Nat} {A : Option Addr} {l : List UInt8} {c k : Nat} {er : Int} {w w' : World} {row : Option Nat} (h : RrS g B A l c w k er) (hg : w.grownBy w' row) (hr : ∀ i, row = some i → K ≤ i) (hK : g < K) : RrS g B A l c w' k er :=
  ⟨h.rr.grown hg (fun e => by have := hr g e; omega), fun hl => by
    obtain ⟨b, off, e, hb, hc⟩ := h.by' hl
    exact ⟨b, off, e, hb, fun i hi => hg.cell (hc i hi) (fun e => by have := hr b e.symm; omega)⟩, h.le, h.far⟩
/-- what a call leaves of two Readers. -/
def ActS (g g2 B : Nat) (A2 A4 : Option Addr) (c2 c4 : Nat) (l : List UInt8) (w0 : World) (er : Int) (wx : World) : Prop :=
  ∃ k' er', RdS g A2 l c2 wx k' er' ∧ RrS g2 B A4 l c4 wx k' er' ∧ Below w0.heap.size w0 wx ∧ (er ≠ 0 → er' = er)

set_option maxHeartbeats 4000000 in
theorem cursorReads_any (A Al : Option Addr) (c cl : Nat) (l : List UInt8) (acts : List (Int × Int)) (w : World) (hl : l.length ≤ c) (hlen : l.length ≤ 140737488355320)
    (hb : Byt w w.heap.size A l) (hnil : A = none → c = 0) (hacts : Ops w w.heap.size Al acts) :
    Calls Try.prog 4 #[.slice A l.length c, .slice Al acts.length cl] w fun e w' => e = .returned (.bool true) ∧ Below w.heap.size w w' := by
  have C1 := hide (lent_any A c l w.heap.size w hl hlen hb (Nat.le_refl _))
  have HB := hide hb
  have HACTS := hide hacts
  have HLEN := hide hlen
  have HL := hide hl
  have HNIL := hide hnil
  clear hb hacts hlen hl hnil
  go_enter Try.func4, Try.ntmps4
  go_wp2_with fail
  refine C1.out.mono ?_
  rintro e w1 ⟨rfl, hl1, hb1⟩
  have HL1 := hide hl1
  have HB1 := hide hb1
  have HG1 : Hid (w.heap.size < w1.heap.size) := hide hl1.lt
  have C2 := hide (newS w1 w1.heap.size (some ⟨w.heap.size, 0, none⟩) l (l.length + 8) (by have := HLEN.out; omega) (hl1.byt hl1.lt) (Nat.le_refl _))
  clear C1 hl1 hb1
  go_wp2_with fail
  refine C2.out.mono ?_
  rintro e w2 ⟨g, A2, c2, rfl, hS2, hlc2, hat2, hg2, hb2⟩
  have HB2 := hide (HB1.out.trans (hb2.mono HB1.out.size))
  have HL2 := hide (HL1.out.below hb2 HG1.out)
  have HS2 := hide hS2
  have hk2 := hide (kept_any A c w.heap.size l w.heap.size w2 HL.out HLEN.out (HB.out.below HB2.out) HL2.out)
  have HAT2 := hide hat2
  have HGG : Hid (w.heap.size < g) := hide (by have := HG1.out; omega)
  have HSP := hide (spoil_any w2 w.heap.size (some ⟨w.heap.size, 0, none⟩) l.length (l.length + 8) (HL2.out.x HLEN.out))
  clear C2 hS2 hat2 hg2 hb2
  go_wp2_with fail
  refine hk2.out.mono ?_
  rintro e w2' ⟨rfl, rfl⟩
  go_wp2_with fail
  refine HSP.out.mono ?_
  rintro e w3 ⟨rfl, hg3, -⟩
  have hB3 : Below w.heap.size w w3 := HB2.out.grown hg3 HB2.out.size (fun k hk => by simp [Value.ownBlock] at hk; omega)
  have hS3 : RdS g A2 l c2 w3 0 0 := ⟨HS2.out.rd.grown hg3 (by simp [Value.ownBlock]; have := HGG.out; omega), fun hpos => by
    obtain ⟨b, off, e, hb, hc⟩ := HS2.out.by' hpos
    have h1 := HAT2.out _ e
    have h2 := HG1.out
    exact ⟨b, off, e, hb, fun i hi => hg3.cell (hc i hi) (by simp [Value.ownBlock] at h1 ⊢; omega)⟩, Nat.zero_le _⟩
  have HB3 := hide hB3
  have HS3 := hide hS3
  have C4 := hide (ofS w3 w.heap.size A l c (by have := HLEN.out; omega) (HB.out.below hB3) hB3.size HNIL.out)
  clear hg3 hS3 hB3 HSP hk2
  dsimp only
  go_wp2_with fail
  refine C4.out.mono ?_
  rintro e w4 ⟨g2, A4, c4, rfl, hS4, hlc4, hnil4, hg4, hb4⟩
  have HGG2 : Hid (g < w3.heap.size ∧ w3.heap.size ≤ g2) := hide ⟨HS3.out.rd.lt, hg4⟩
  have HS4 := hide (HS3.out.below hb4)
  have HR4 := hide hS4
  have HB4 := hide (HB3.out.trans (hb4.mono HB3.out.size))
  have HNIL4 := hide hnil4
  have hln : l.length ≤ 140737488355328 := by have := HLEN.out; omega
  clear C4 hS4 hg4 hb4 hnil4
  dsimp only
  go_wp2_with fail
  go_loopw [8] (fun i wr => ∃ (j k : Nat) (er : Int), j ≤ acts.length ∧ i = .int .i64 (j : Int) ∧ Hid (RdS g A2 l c2 wr k er) ∧ Hid (RrS g2 w3.heap.size A4 l c4 wr k er) ∧ Hid (Below w.heap.size w wr)) (fun i _ => acts.length - (intOf i).toNat)
  case atStart => exact ⟨0, 0, 0, by omega, rfl, HS4, HR4, HB4⟩
  case round =>
    obtain ⟨j, k, er, hj, rfl, hS, hR, hBw⟩ := hrel
    by_cases hlt : j < acts.length ∧ j < 200
    · obtain ⟨hlt, hlt200⟩ := hlt
      obtain ⟨ba, oa, hAl, hba, hca⟩ := HACTS.out (by omega)
      subst hAl
      obtain ⟨ho0, ho1⟩ := hca j hlt
      obtain ⟨kd, hkd⟩ : ∃ kd, kd = acts[j].1 := ⟨_, rfl⟩
      obtain ⟨sz, hsz⟩ : ∃ sz, sz = acts[j].2 := ⟨_, rfl⟩
      rw [← hkd] at ho0
      rw [← hsz] at ho1
      have HCELL : Hid (∀ w', Below w.heap.size w w' → w'.cell? ⟨ba, oa + j * 2 + 1, none⟩ = some (.int .i64 sz)) := hide (fun w' hb => (hb.cell (by exact hba)).trans ho1)
      have c0 : wr.cell? ⟨ba, oa + j * 2, none⟩ = some (.int .i64 kd) := (hBw.out.cell (by exact hba)).trans ho0
      have c1 := HCELL.out wr hBw.out
      have d2 := hR.out.rr.c2
      have hj0 : (0 : Int) ≤ (j : Int) := by omega
      have hj1 : (j : Int) < (acts.length : Int) := by omega
      have hj2 : (j : Int) < 200 := by omega
      clear hca ho0 ho1 hkd hsz
      go_upto_block 2 with (fail)
      go_cut [9, 10] from 47 to 122 (fun a b wx => a = .int .i64 er ∧ ActS g g2 w3.heap.size A2 A4 c2 c4 l w er wx)
      case first =>
        by_cases h01 : kd = 0 ∨ kd = 1
        · have hnumU := hide (fun W k er h => numU (g := g) (A := A2) (l := l) (c := c2) (k := k) (er := er) W sz h hlc2 hln)
          have hnumV := hide (fun W k er h => numV (g := g2) (B := w3.heap.size) (A := A4) (l := l) (c := c4) (k := k) (er := er) W sz h hlc4 hln)
          obtain ⟨q, hq⟩ : ∃ q, q = numQ l k er sz := ⟨_, rfl⟩
          have HU := hide (hnumU.out wr.drew k er (hS.out.below (Below.refl _ _).drew))
          have HV := hide (hnumV.out wr.drew k er (hR.out.below (Below.refl _ _).drew))
          have HU2 := hide (fun W h => hnumU.out W k er h)
          have HV2 := hide (fun W h => hnumV.out W k er h)
          rw [← hq] at HU HV HU2 HV2
          have HQE : Hid (er ≠ 0 → q.2.2 = er) := hide (fun he => by rw [hq, numQ_err he])
          clear hq hnumU hnumV
          have hkk : ((kd == 0) = true) ∨ ((kd == 0) = false ∧ (kd == 1) = true) := by
            rcases h01 with rfl | rfl
            · exact .inl rfl
            · exact .inr ⟨rfl, rfl⟩
          have HBd : Hid (Below w.heap.size w wr.drew) := hide hBw.out.drew
          clear h01
          rcases hkk with hk0 | ⟨hk0, hk1⟩
          all_goals
            go_wp2_with fail
            go_region_held3 (fun w' => w'.cell? ⟨ba, oa + j * 2 + 1, none⟩ = some (.int .i64 sz))
              (first
                | exact c1
                | exact HCELL.out _ HB6.out
                | exact HCELL.out _ HB5.out
                | exact HCELL.out _ HBd.out
                | fail)
              (first
                | (have hx := HSa; clear hx; go_at_call 27; (with_reducible refine Calls.mono (HV2.out w5 HRa.out) ?_); rintro e w6 ⟨rfl, hR6, hg6⟩; have HR6 := hide hR6; have HS6 := hide (HSa.out.keep hg6 (by have := HGG2.out; omega)); have HB6 : Hid (Below w.heap.size w w6) := hide (HB5.out.grown hg6 HB5.out.size (fun i hi => by have := HGG2.out; have := HGG.out; have h := HB3.out.size; cases hi; omega)); have d6 := HCELL.out _ HB6.out; clear hR6 hg6)
                | (have hx := HRb; clear hx; go_at_call 26; (with_reducible refine Calls.mono (HU2.out w5 HSb.out) ?_); rintro e w6 ⟨rfl, hS6, hg6⟩; have HS6 := hide hS6; have HR6 := hide (HRb.out.keep hg6 HGG2.out.1 (by have := HGG2.out; omega)); have HB6 : Hid (Below w.heap.size w w6) := hide (HB5.out.grown hg6 HB5.out.size (fun i hi => by have := HGG.out; cases hi; omega)); have d6 := HCELL.out _ HB6.out; clear hS6 hg6)
                | (go_at_call 26; (with_reducible refine Calls.mono HU.out ?_); rintro e w5 ⟨rfl, hS5, hg5⟩; have HSa := hide hS5; have HRa := hide ((hR.out.below (Below.refl _ _).drew).keep hg5 HGG2.out.1 (by have := HGG2.out; omega)); have HB5 : Hid (Below w.heap.size w w5) := hide (HBd.out.grown hg5 HBd.out.size (fun i hi => by have := HGG.out; cases hi; omega)); have d5 := HCELL.out _ HB5.out; clear hS5 hg5)
                | (go_at_call 27; (with_reducible refine Calls.mono HV.out ?_); rintro e w5 ⟨rfl, hR5, hg5⟩; have HRb := hide hR5; have HSb := hide ((hS.out.below (Below.refl _ _).drew).keep hg5 (by have := HGG2.out; omega)); have HB5 : Hid (Below w.heap.size w w5) := hide (HBd.out.grown hg5 HBd.out.size (fun i hi => by have := HGG2.out; have := HGG.out; have h := HB3.out.size; cases hi; omega)); have d5 := HCELL.out _ HB5.out; clear hR5 hg5)
                | fail)
            all_goals go_wp2_with fail
            all_goals go_meet
            all_goals exact ⟨rfl, q.1, q.2.2, HS6.out, HR6.out, HB6.out, HQE.out⟩
        have h0i : (kd == 0) = false := by simp; omega
        have h1i : (kd == 1) = false := by simp; omega
        have htakU := hide (fun W k er h => takeU (g := g) (A := A2) (l := l) (c := c2) (k := k) (er := er) W sz h hlc2 hln)
        have htakV := hide (fun W k er h => takeV (g := g2) (B := w3.heap.size) (A := A4) (l := l) (c := c4) (k := k) (er := er) W sz h hlc4 hln HNIL4.out)
        obtain ⟨q, hq⟩ : ∃ q, q = takeQ l k er sz := ⟨_, rfl⟩
        have HQE : Hid (er ≠ 0 → q.2.2 = er) := hide (fun he => by rw [hq, takeQ_err he])
        by_cases h2 : kd = 2
        · subst h2
          have HU := hide (htakU.out wr k er hS.out)
          have HV := hide (fun W h => htakV.out W k er h)
          rw [← hq] at HU HV
          clear hq htakU htakV
          go_wp2_with fail
          refine HU.out.mono ?_
          rintro e w5 ⟨⟨x5, rfl, hO5⟩, hS5, hg5⟩
          obtain ⟨Ax, cx, rfl, hlx, hbx, -, -⟩ := hO5.shape
          have HS5 := hide hS5
          have HR5 := hide (hR.out.keep hg5 HGG2.out.1 (by have := HGG2.out; omega))
          have HB5 : Hid (Below w.heap.size w w5) := hide (hBw.out.grown hg5 hBw.out.size (fun i hi => by have := HGG.out; cases hi; omega))
          have HO5 := hide hO5
          have HX5 := hide hbx
          have HXX : Hid (OwnX w5 wr.heap.size (.slice Ax q.2.1.length cx) q.2.1.length) := hide hO5.x
          have HAT5 : Hid (∀ a, Ax = some a → wr.heap.size ≤ a.block) := hide (fun a e => by
            rcases hO5.2 with ⟨e', _⟩ | ⟨g', cap, cur, e', hbg, _⟩
            · rw [e] at e'; cases e'
            · rw [e] at e'; simp at e'; rw [e'.1]; exact hbg)
          have HW5 : Hid (wr.heap.size ≤ w5.heap.size) := hide hg5.size
          have HGW : Hid (g < wr.heap.size ∧ g2 < wr.heap.size) := hide ⟨hS.out.rd.lt, hR.out.rr.lt⟩
          have e1 := HCELL.out w5 HB5.out
          obtain ⟨sx, hsx⟩ : ∃ s, s = (⟨q.2.1.toArray⟩ : ByteArray) := ⟨_, rfl⟩
          have hbx' := hbx
          have hkx := conv_any Ax cx q.2.1 w5.heap.size w5 hbx
          rw [← hsx] at hkx
          have HSX := hide hsx
          have hkxn : (convert 22 9 (.slice Ax q.2.1.length cx)).run Try.prog w5.drew = .ok (.string sx) w5.drew := by rw [HSX.out]; exact conv_any Ax cx q.2.1 w5.heap.size w5.drew hbx'
          have HBd : Hid (Below w.heap.size w w5.drew) := hide HB5.out.drew
          have HV5 := hide (HV.out w5.drew (HR5.out.below (Below.refl _ _).drew))
          clear hO5 hS5 hg5 hbx hbx' hsx c0 c1 d2
          dsimp only
          go_wp2_with fail
          have e1d := HCELL.out _ HBd.out
          go_region_with (go_at_call 29; (with_reducible refine Calls.mono HV5.out ?_); rintro e w6 ⟨⟨y6, rfl, hO6⟩, hR6, hg6⟩; obtain ⟨Ay, cy, rfl, -, hby, -, -⟩ := hO6.shape; have HR6 := hide hR6; have HG6 := hide hg6; have HB6 : Hid (Below w.heap.size w w6) := hide (HBd.out.grown hg6 HBd.out.size (fun i hi => by have := HGG2.out; have := HGG.out; have h := HB3.out.size; cases hi; omega)); have hkx6 : (convert 22 9 (.slice Ax q.2.1.length cx)).run Try.prog w6 = .ok (.string sx) w6 := (by rw [HSX.out]; refine conv_any Ax cx q.2.1 w5.heap.size w6 (fun hp => ?_); obtain ⟨b, off, e, hb, hc⟩ := HX5.out hp; exact ⟨b, off, e, hb, fun i hi => hg6.cell (hc i hi) (by have h1 := HAT5.out _ e; have h2 := HGW.out; simp at h1 ⊢; omega)⟩); have hky6 := conv_any Ay cy q.2.1 _ w6 hby; rw [← HSX.out] at hky6; have e6 := HCELL.out _ HB6.out; clear hR6 hg6 hO6 hby)
          all_goals
            clear hkx6 hky6 hkx hkxn
            have hx6 : OwnX w6 wr.heap.size (.slice Ax q.2.1.length cx) q.2.1.length := HXX.out.grown (w := w5) ⟨HG6.out.os, HG6.out.tape, HG6.out.output, HG6.out.size, HG6.out.block⟩ HGW.out.2
            have CS := hide (spoil_any w6 wr.heap.size Ax q.2.1.length cx hx6)
            have HAT := hide hx6.at
            have HS6 := hide ((HS5.out.below (Below.refl _ _).drew).keep HG6.out (by have := HGG2.out; omega))
            clear hx6
            go_wp2_with fail
            refine CS.out.mono ?_
            rintro e w7 ⟨rfl, hg7, -⟩
            have HS7 := hide (HS6.out.far hg7 HAT.out HGW.out.1)
            have HR7 := hide (HR6.out.farr hg7 HAT.out HGW.out.2)
            have HB7 : Hid (Below w.heap.size w w7) := hide (HB6.out.grown hg7 HB6.out.size (fun i hi => by have h1 := HAT.out i hi; have h2 := hBw.out.size; omega))
            clear hg7
            dsimp only
            go_wp2_with fail
            go_meet
            exact ⟨rfl, q.1, q.2.2, HS7.out, HR7.out, HB7.out, HQE.out⟩
        have h2i : (kd == 2) = false := by simpa using h2
        by_cases h3 : kd = 3
        · subst h3
          have HU := hide (skipU wr sz hS.out hlc2 hln)
          have HV := hide (fun W h => htakV.out W k er h)
          rw [← hq] at HU HV
          clear hq htakU htakV
          go_wp2_with fail
          refine HU.out.mono ?_
          rintro e w5 ⟨rfl, hS5, hg5⟩
          have HS5 := hide hS5
          have HR5 := hide (hR.out.keep hg5 HGG2.out.1 (by have := HGG2.out; omega))
          have HB5 : Hid (Below w.heap.size w w5) := hide (hBw.out.grown hg5 hBw.out.size (fun i hi => by have := HGG.out; cases hi; omega))
          have e1 := HCELL.out w5 HB5.out
          clear hS5 hg5 c0 c1 d2
          dsimp only
          go_wp2_with fail
          refine (HV.out w5 HR5.out).mono ?_
          rintro e w6 ⟨⟨y6, rfl, -⟩, hR6, hg6⟩
          have HR6 := hide hR6
          have HS6 := hide (HS5.out.keep hg6 (by have := HGG2.out; omega))
          have HB6 : Hid (Below w.heap.size w w6) := hide (HB5.out.grown hg6 HB5.out.size (fun i hi => by have := HGG2.out; have := HGG.out; have h := HB3.out.size; cases hi; omega))
          clear hR6 hg6
          dsimp only
          go_wp2_with fail
          go_meet
          exact ⟨rfl, q.1, q.2.2, HS6.out, HR6.out, HB6.out, HQE.out⟩
        have h3i : (kd == 3) = false := by simpa using h3
        by_cases h4 : kd = 4
        · subst h4
          have HU := hide (zeroU wr sz hS.out hlc2 hln)
          have HV := hide (fun W (h : RrS g2 w3.heap.size A4 l c4 W k er) => zeroV W sz h hlc4 hln)
          obtain ⟨z, hz⟩ : ∃ z, z = zeroQ l k er sz := ⟨_, rfl⟩
          rw [← hz] at HU HV
          have HZE : Hid (er ≠ 0 → z.2 = er) := hide (fun he => by rw [hz, zeroQ_err he])
          clear hq htakU htakV hz
          go_wp2_with fail
          refine HU.out.mono ?_
          rintro e w5 ⟨rfl, hS5, hg5⟩
          have HS5 := hide hS5
          have HR5 := hide (hR.out.keep hg5 HGG2.out.1 (by have := HGG2.out; omega))
          have HB5 : Hid (Below w.heap.size w w5) := hide (hBw.out.grown hg5 hBw.out.size (fun i hi => by have := HGG.out; cases hi; omega))
          have e1 := HCELL.out w5 HB5.out
          clear hS5 hg5 c0 c1 d2
          dsimp only
          go_wp2_with fail
          refine (HV.out w5 HR5.out).mono ?_
          rintro e w6 ⟨rfl, hR6, hg6⟩
          have HR6 := hide hR6
          have HS6 := hide (HS5.out.keep hg6 (by have := HGG2.out; omega))
          have HB6 : Hid (Below w.heap.size w w6) := hide (HB5.out.grown hg6 HB5.out.size (fun i hi => by have := HGG2.out; have := HGG.out; have h := HB3.out.size; cases hi; omega))
          clear hR6 hg6
          dsimp only
          go_wp2_with fail
          go_meet
          exact ⟨rfl, z.1, z.2, HS6.out, HR6.out, HB6.out, HZE.out⟩
        have h4i : (kd == 4) = false := by simpa using h4
        clear hq htakU htakV
        go_wp2_with fail
        go_meet
        exact ⟨rfl, k, er, hS.out, hR.out, hBw.out, fun _ => rfl⟩
      case rest =>
        obtain ⟨rfl, k', er', hS', hR', hB', hee⟩ := hcut
        have HS' := hide hS'
        have HR' := hide hR'
        have HB' := hide hB'
        have d0 := hR'.rr.c0
        have d1 := hR'.rr.c1
        have d2 := hR'.rr.c2
        have hsb : IntKind.i64.wrap ((l.length : Int) - (k' : Int)) = (l.length : Int) - (k' : Int) := by rw [IntKind.wrap_i64]; have := hS'.le; omega
        have hat' : ∀ n, Calls Try.prog 33 #[.pointer (some ⟨g, 0, none⟩)] (wc.drewN n) fun e w' => e = .returned (.int .i64 (k' : Int)) ∧ w' = wc.drewN n := fun n => (at_any (wc.drewN n) g A2 l.length c2 k' er' (hS'.rd.drewN n)).mono fun _ _ ⟨h1, h2⟩ => ⟨h1, h2.symm⟩
        have herr : ∀ n, Calls Try.prog 35 #[.pointer (some ⟨g, 0, none⟩)] (wc.drewN n) fun e w' => e = .returned (.int .i64 er') ∧ w' = wc.drewN n := fun n => (err_any (wc.drewN n) g A2 l.length c2 k' er' (hS'.rd.drewN n)).mono fun _ _ ⟨h1, h2⟩ => ⟨h1, h2.symm⟩
        have hleft := fun n => left_any (wc.drewN n) g A2 l.length c2 k' er' (hS'.rd.drewN n) hln hS'.le
        have hend := fun n => end_any (wc.drewN n) g A2 l.length c2 k' er' (hS'.rd.drewN n) hln hS'.le
        have hendq := fun n => endq_any (wc.drewN n) g2 A4 l.length c4 k' er' (hR'.rr.drewN n) hln hR'.le
        have HAT' := hide hat'
        have HERR := hide herr
        have HLEFT := hide hleft
        have HEND := hide hend
        have HENDQ := hide hendq
        clear hat' herr hleft hend hendq hS hR hS' hR' hB' c0 c1
        by_cases he0 : er = 0
        · subst he0
          clear hee
          go_wp2_with fail
          go_quiet ((first
            | (go_at_call 33; exact Calls.quiet_of_same (HAT'.out _))
            | (go_at_call 35; exact Calls.quiet_of_same (HERR.out _))
            | (go_at_call 34; exact Calls.quiet_of (HLEFT.out _))
            | (go_at_call 36; exact Calls.quiet_of (HEND.out _))
            | (go_at_call 37; exact Calls.quiet_of (HENDQ.out _))
            | fail))
          go_wp2
          go_roundw
          case rel => exact ⟨j + 1, k', er', by omega, by go_num, hide (HS'.out.below (below_drewN (Below.refl _ _) _)), hide (HR'.out.below (below_drewN (Below.refl _ _) _)), hide (below_drewN HB'.out _)⟩
          case measure => simp [intOf]; omega
        · obtain rfl := hee he0
          have hei : (er' != 0) = true := by simpa using he0
          clear hee he0
          go_wp2_with fail
          go_quiet ((first
            | (go_at_call 33; exact Calls.quiet_of_same (HAT'.out _))
            | (go_at_call 35; exact Calls.quiet_of_same (HERR.out _))
            | (go_at_call 34; exact Calls.quiet_of (HLEFT.out _))
            | (go_at_call 36; exact Calls.quiet_of (HEND.out _))
            | (go_at_call 37; exact Calls.quiet_of (HENDQ.out _))
            | fail))
          go_wp2
          go_roundw
          case rel => exact ⟨j + 1, k', er', by omega, by go_num, hide (HS'.out.below (below_drewN (Below.refl _ _) _)), hide (HR'.out.below (below_drewN (Below.refl _ _) _)), hide (below_drewN HB'.out _)⟩
          case measure => simp [intOf]; omega
    · have cskip := hide (fun W => rskip_err W none 2 1 (ErrIs.nil W))
      have czero := hide (fun W => rzero_err W none 2 1 (ErrIs.nil W))
      have cnum := hide (fun W => rnum_err W none 2 1 (ErrIs.nil W))
      have ctake := hide (fun W => rtake_err W none 2 1 (ErrIs.nil W))
      by_cases h1 : j < acts.length
      · have hj1 : (j : Int) < (acts.length : Int) := by omega
        have hj2 : ¬ (j : Int) < 200 := by omega
        clear hlt
        go_wp2_with fail
        refine (cskip.out _).mono ?_
        rintro e w5 ⟨rfl, hb5⟩
        have HB5 := hide (hBw.out.trans (hb5.mono hBw.out.size))
        clear hb5
        go_wp2_with fail
        refine (czero.out _).mono ?_
        rintro e w6 ⟨rfl, hb6⟩
        have HB6 := hide (HB5.out.trans (hb6.mono HB5.out.size))
        clear hb6
        go_wp2_with fail
        refine (cnum.out _).mono ?_
        rintro e w7 ⟨rfl, hb7⟩
        have HB7 := hide (HB6.out.trans (hb7.mono HB6.out.size))
        clear hb7
        go_wp2_with fail
        refine (ctake.out _).mono ?_
        rintro e w8 ⟨rfl, hb8⟩
        have HB8 := hide (HB7.out.trans (hb8.mono HB7.out.size))
        clear hb8
        go_wp2_with fail
        refine (at_nil _).mono ?_
        rintro e w9 ⟨rfl, rfl⟩
        go_wp2_with fail
        refine (left_nil _).mono ?_
        rintro e w9 ⟨rfl, rfl⟩
        go_wp2_with fail
        refine (err_nil _).mono ?_
        rintro e w9 ⟨rfl, rfl⟩
        go_wp2_with fail
        refine (end_nil _).mono ?_
        rintro e w9 ⟨rfl, rfl⟩
        go_wp2_with fail
        refine (knownC_any _).mono ?_
        rintro e w9 ⟨rfl, hb9⟩
        go_wp2
        go_ret
        exact ⟨rfl, HB8.out.trans (hb9.mono HB8.out.size)⟩
      · have hj1 : ¬ (j : Int) < (acts.length : Int) := by omega
        clear hlt
        go_wp2_with fail
        refine (cskip.out _).mono ?_
        rintro e w5 ⟨rfl, hb5⟩
        have HB5 := hide (hBw.out.trans (hb5.mono hBw.out.size))
        clear hb5
        go_wp2_with fail
        refine (czero.out _).mono ?_
        rintro e w6 ⟨rfl, hb6⟩
        have HB6 := hide (HB5.out.trans (hb6.mono HB5.out.size))
        clear hb6
        go_wp2_with fail
        refine (cnum.out _).mono ?_
        rintro e w7 ⟨rfl, hb7⟩
        have HB7 := hide (HB6.out.trans (hb7.mono HB6.out.size))
        clear hb7
        go_wp2_with fail
        refine (ctake.out _).mono ?_
        rintro e w8 ⟨rfl, hb8⟩
        have HB8 := hide (HB7.out.trans (hb8.mono HB7.out.size))
        clear hb8
        go_wp2_with fail
        refine (at_nil _).mono ?_
        rintro e w9 ⟨rfl, rfl⟩
        go_wp2_with fail
        refine (left_nil _).mono ?_
        rintro e w9 ⟨rfl, rfl⟩
        go_wp2_with fail
        refine (err_nil _).mono ?_
        rintro e w9 ⟨rfl, rfl⟩
        go_wp2_with fail
        refine (end_nil _).mono ?_
        rintro e w9 ⟨rfl, rfl⟩
        go_wp2_with fail
        refine (knownC_any _).mono ?_
        rintro e w9 ⟨rfl, hb9⟩
        go_wp2
        go_ret
        exact ⟨rfl, HB8.out.trans (hb9.mono HB8.out.size)⟩
end Go.Proofs.Ytgbmamahkpkdfaa
