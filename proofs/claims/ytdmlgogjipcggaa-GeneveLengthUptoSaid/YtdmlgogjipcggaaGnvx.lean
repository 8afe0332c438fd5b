/-
  The walk of the statement GeneveLength.
-/
import Derived.Test.YtdmlgogjipcggaaGnu
import Derived.Test.YtdmlgogjipcggaaGnm
import Derived.Test.YtdmlgogjipcggaaJm
import Derived.Test.YtdmlgogjipcggaaGnk
import Derived.Deep.RegionHeld3
import Derived.Deep.CutRange
section
namespace Go.Proofs.Ytdmlgogjipcggaa
open Go.RowKit
set_option maxRecDepth 100000
set_option linter.unusedVariables false
set_option linter.unusedSimpArgs false
attribute [local go_sem ↓] exec_span exec_put exec_build heap_alloc_new heap_old
attribute [local go_sem] spanQ_ptr spanC_some heap_of_drew heap_of_drewN putAt_ptr putOk_ptr oldOk_some World.setRow_alloc_new rs_ad rs_arr rs_path

def atMtu (p : PaG) (m : Int) : PaG := { p with mtu := m }
/-- how many bytes a frame has. -/
def lenF (p : PaG) (T : TuD) : Nat := 36 + (if p.sv then 20 else 0) + (sizeD T.l + T.D.length)
theorem wrapG_bad {p : PaG} {T : TuD} (h : (wrapG p T).2 ≠ 0) : (wrapG p T).1 = [] := by
  unfold wrapG at h ⊢
  by_cases h1 : (putD T).2 ≠ 0
  · rw [if_pos h1]
  · rw [if_neg h1] at h ⊢
    by_cases h2 : p.mtu < 1 ∨ 65535 < p.mtu
    · rw [if_pos h2]
    · rw [if_neg h2] at h ⊢
      by_cases h3 : putE (hG p none 0 0) (sG p none (putD T).1.length 0) ≠ 0
      · rw [if_pos h3]
      · rw [if_neg h3] at h ⊢
        by_cases h4 : pktE (hG p none (putB (hG p none 0 0) (sG p none (putD T).1.length 0) [] (putD T).1).length 0) ≠ 0
        · rw [if_pos h4]
        · rw [if_neg h4] at h ⊢
          by_cases h5 : p.mtu < ((pktB (hG p none (putB (hG p none 0 0) (sG p none (putD T).1.length 0) [] (putD T).1).length 0) [] (putB (hG p none 0 0) (sG p none (putD T).1.length 0) [] (putD T).1)).length : Int)
          · rw [if_pos h5]
          · rw [if_neg h5] at h; exact absurd rfl h
theorem putD_zero {T : TuD} (h : ¬ (putD T).2 ≠ 0) : (putD T).1 = bytD T := by
  unfold putD at h ⊢
  by_cases h1 : rightD T = false
  · rw [if_pos h1] at h; simp at h
  · rw [if_neg h1] at h ⊢
    by_cases h2 : 252 < sizeD T.l
    · rw [if_pos h2] at h; simp at h
    · rw [if_neg h2] at h ⊢
      by_cases h3 : (bytD T).length ≤ 65535
      · rw [if_pos h3]
      · rw [if_neg h3] at h; simp at h
/-- a frame that is one: its length, and what comes of less room. -/
theorem wrapG_len {p : PaG} {T : TuD} (ls : p.sb.length = 16) (ld : p.db.length = 16) (h : (wrapG (atMtu p 65535) T).2 = 0) :
    (wrapG (atMtu p 65535) T).1.length = lenF p T ∧ lenF p T ≤ 65535 ∧ wrapG (atMtu p (lenF p T : Nat)) T = wrapG (atMtu p 65535) T ∧ wrapG (atMtu p ((lenF p T : Nat) - 1 : Int)) T = ([], 16) := by
  have hk : ∀ m A n c, hG (atMtu p m) A n c = hG p A n c := fun _ _ _ _ => rfl
  have hk2 : ∀ m A n c, sG (atMtu p m) A n c = sG p A n c := fun _ _ _ _ => rfl
  have hm : ∀ m, (atMtu p m).mtu = m := fun _ => rfl
  unfold wrapG at h ⊢
  simp only [hk, hk2, hm] at h ⊢
  by_cases h1 : (putD T).2 ≠ 0
  · rw [if_pos h1] at h; simp at h; omega
  · rw [if_neg h1] at h
    rw [if_neg h1, if_neg h1, if_neg h1]
    have hL := putD_zero h1
    have hLl : (putD T).1.length = 8 + (sizeD T.l + T.D.length) := by rw [hL, bytD_len]
    rw [if_neg (by omega)] at h
    rw [if_neg (show ¬ ((65535 : Int) < 1 ∨ (65535 : Int) < 65535) by omega)]
    obtain ⟨L, hLL⟩ : ∃ L, L = (putD T).1 := ⟨_, rfl⟩
    rw [← hLL] at h hLl ⊢
    obtain ⟨E7, hE7⟩ : ∃ D, D = putE (hG p none 0 0) (sG p none L.length 0) := ⟨_, rfl⟩
    obtain ⟨Dg, hDg⟩ : ∃ D, D = putB (hG p none 0 0) (sG p none L.length 0) [] L := ⟨_, rfl⟩
    rw [← hE7, ← hDg] at h ⊢
    by_cases h3 : E7 ≠ 0
    · rw [if_pos h3] at h; exact absurd h h3
    · rw [if_neg h3] at h
      rw [if_neg h3, if_neg h3, if_neg h3]
      have h3' : E7 = 0 := by simpa using h3
      rw [h3'] at hE7
      have hDl : Dg.length = 8 + L.length := by
        rw [hDg]
        unfold putB
        rw [if_pos hE7.symm]
        have hr : rightS (sG p none L.length 0) = true := by
          have h9 := hE7
          unfold putE at h9
          rw [if_pos ⟨.inr rfl, rfl⟩] at h9
          by_cases h2 : rightS (sG p none L.length 0) = true ∧ ((sG p none L.length 0).ns && (hG p none 0 0).v) = false
          · exact h2.1
          · rw [if_neg h2] at h9; cases h9
        rw [len_segB hr rfl rfl]
        rfl
      obtain ⟨E9, hE9⟩ : ∃ D, D = pktE (hG p none Dg.length 0) := ⟨_, rfl⟩
      obtain ⟨B, hB⟩ : ∃ D, D = pktB (hG p none Dg.length 0) [] Dg := ⟨_, rfl⟩
      rw [← hE9, ← hB] at h ⊢
      by_cases h4 : E9 ≠ 0
      · rw [if_pos h4] at h; exact absurd h h4
      · rw [if_neg h4] at h
        rw [if_neg h4, if_neg h4, if_neg h4]
        have h4' : E9 = 0 := by simpa using h4
        rw [h4'] at hE9
        have hBl : B.length = lenF p T := by
          rw [hB, pk_len hE9.symm ls ld rfl rfl]
          unfold lenF sizeN
          show (if p.sv = true then 40 else 20 + 0) + Dg.length = _
          rw [hDl, hLl]
          cases p.sv <;> simp <;> omega
        by_cases h5 : (65535 : Int) < (B.length : Int)
        · rw [if_pos h5] at h; cases h
        · have hf : 36 ≤ lenF p T := by unfold lenF; omega
          rw [if_neg h5, hBl]
          refine ⟨rfl, by omega, ?_, ?_⟩
          · rw [if_neg (by omega), if_neg (by omega)]
          · rw [if_neg (by omega), if_pos (by omega)]
theorem built_pA (s d : Bool) (a t m : Int) (b0 b1 b2 b3 b4 b5 b6 b7 b8 b9 b10 b11 b12 b13 b14 b15 c0 c1 c2 c3 c4 c5 c6 c7 c8 c9 c10 c11 c12 c13 c14 c15 : UInt8) :
    Try.prog.built 46 [(0, .agg (adL s [b0, b1, b2, b3, b4, b5, b6, b7, b8, b9, b10, b11, b12, b13, b14, b15]).toArray), (1, .agg (adL d [c0, c1, c2, c3, c4, c5, c6, c7, c8, c9, c10, c11, c12, c13, c14, c15]).toArray), (2, .int .i64 a), (3, .int .i64 t), (4, .int .i64 m)] = some (paL ⟨s, [b0, b1, b2, b3, b4, b5, b6, b7, b8, b9, b10, b11, b12, b13, b14, b15], d, [c0, c1, c2, c3, c4, c5, c6, c7, c8, c9, c10, c11, c12, c13, c14, c15], a, t, m⟩).toArray := by kernel_rfl
theorem built_pG (p : PaG) (ls : p.sb.length = 16) (ld : p.db.length = 16) : Try.prog.built 46 [(0, .agg (adL p.sv p.sb).toArray), (1, .agg (adL p.dv p.db).toArray), (2, .int .i64 p.port), (3, .int .i64 p.ttl), (4, .int .i64 p.mtu)] = some (paL p).toArray := by
  obtain ⟨sv, sb, dv, db, po, t, m⟩ := p
  match sb, db, ls, ld with
  | [_, _, _, _, _, _, _, _, _, _, _, _, _, _, _, _], [_, _, _, _, _, _, _, _, _, _, _, _, _, _, _, _], _, _ => exact built_pA _ _ _ _ _ _ _ _ _ _ _ _ _ _ _ _ _ _ _ _ _ _ _ _ _ _ _ _ _ _ _ _ _ _ _ _ _
theorem pa_set36 (p : PaG) (ls : p.sb.length = 16) (ld : p.db.length = 16) (m : Int) : (paL p).toArray.setIfInBounds 36 (.int .i64 m) = (paL (atMtu p m)).toArray := by
  obtain ⟨sv, sb, dv, db, po, t, m0⟩ := p
  match sb, db, ls, ld with
  | [_, _, _, _, _, _, _, _, _, _, _, _, _, _, _, _], [_, _, _, _, _, _, _, _, _, _, _, _, _, _, _, _], _, _ => rfl
/-- a way of which another room is said. -/
theorem PaV.turn {X : Array Value} {p : PaG} (x : PaV X p) (m : Int) : PaV (paL (atMtu p m)).toArray (atMtu p m) := ⟨rfl, x.ls, x.ld⟩
theorem PaV.store {X : Array Value} {p : PaG} (x : PaV X p) {w : World} {g : Nat} {ty : TypeId} (hg : w.heap[g]? = some (.cells X ty (0, 0))) (m : Int) : (w.setCell ⟨g, 36, none⟩ (.int .i64 m)).heap[g]? = some (.cells (paL (atMtu p m)).toArray ty (0, 0)) := by
  have h := heap_setCell_same w g 36 _ _ (.int .i64 m) hg
  rw [x.eq, pa_set36 p x.ls x.ld] at h
  exact h
theorem rs_rpath : rowSize Try.prog 49 = some 37 := by kernel_rfl
theorem info_path : (Try.prog.info? 46).map (·.size) = some 37 := by kernel_rfl
attribute [local go_sem] rs_rpath
set_option maxHeartbeats 4000000 in
theorem path_any (w : World) (P : Array Value) (p : PaG) (hp : PaV P p) :
    Calls Try.prog 20 #[.agg P] w fun e w' => e = .returned (.agg P) ∧ Below w.heap.size w w' := by
  have hps := hp.size
  have hpo := hp.one
  obtain ⟨S, hS⟩ : ∃ S, S = (adL p.sv p.sb).toArray := ⟨_, rfl⟩
  obtain ⟨D, hD⟩ : ∃ D, D = (adL p.dv p.db).toArray := ⟨_, rfl⟩
  have hsrc := hp.src
  have hdst := hp.dst
  rw [← hS] at hsrc
  rw [← hD] at hdst
  have hbp := built_pG p hp.ls hp.ld
  rw [← hS, ← hD, ← hp.eq] at hbp
  obtain ⟨Z, hZ⟩ : ∃ Z, Z = (paL ⟨false, List.replicate 16 0, false, List.replicate 16 0, 0, 0, 0⟩).toArray := ⟨_, rfl⟩
  have hZs : Z.size = 37 := by rw [hZ]; rfl
  obtain ⟨W0, hW0, r0, z0, b0⟩ := alloc_tl w (.cells P 49)
  obtain ⟨W, hW, r1, z1, b1⟩ := alloc_tl W0 (.cells Z 46)
  rw [z0] at r1
  have r0' := (b1.block w.heap.size (by omega)).trans r0
  have bW : Below w.heap.size w W := b0.trans (b1.mono (by omega))
  obtain ⟨-, d34, d35, d36⟩ := hp.cells r0'
  have HB := hide bW
  have HW := hide (And.intro hW0 hW)
  have HZ := hide hZ
  have HR1 := hide r1
  clear hW0 hW r0 z0 z1 b0 b1 bW hS hD hp hZ
  go_enter Try.func20, Try.ntmps20
  go_upto_region 1 with (fail)
  change Code.wp _ _ _ _ ((w.alloc (.cells P 49)).alloc (.cells (paL ⟨false, List.replicate 16 0, false, List.replicate 16 0, 0, 0, 0⟩).toArray 46))
  rw [← HZ.out, HW.out.1, HW.out.2]
  go_wp2
  refine bodyPost_ret (results_cell_row (fn := Try.f20) Try.results20 _ _ (w.heap.size + 1) 46 P (0, 0) _ rfl (setRow_heap W _ _ _ _ _ HR1.out) Try.underlying46 rfl (by rw [hps]; exact info_path)) rfl ?_
  exact ⟨rfl, below_setRow HB.out (Nat.le_succ _) _⟩
end Go.Proofs.Ytdmlgogjipcggaa
end

section
namespace Go.Proofs.Ytdmlgogjipcggaa
open Go.RowKit
set_option maxRecDepth 100000
set_option linter.unusedVariables false
set_option linter.unusedSimpArgs false
attribute [local go_sem ↓] exec_span exec_put exec_build heap_alloc_new heap_old
attribute [local go_sem] spanQ_ptr spanC_some heap_of_drew heap_of_drewN putAt_ptr putOk_ptr oldOk_some World.setRow_alloc_new rs_tunG rs_rtunG rs_path rs_rpath

theorem OwnB.cvL {w : World} {base : Nat} {A : Option Addr} {c : Nat} {l : List UInt8} (h : OwnB w base (.slice A l.length c) l) : (convert 23 9 (.slice A l.length c)).run Try.prog w = .ok (.string ⟨l.toArray⟩) w := by
  obtain ⟨A', c', e, hlc, hby, -⟩ := h.shape
  cases e
  exact hby.cvG
theorem OwnB.onL {w w' : World} {base : Nat} {v : Value} {l : List UInt8} (h : OwnB w base v l) (b : Below w.heap.size w w') : OwnB w' base v l := World.ownsRow.kept h (grown_of_below b) (Classical.em _)
structure LitL (T : TuD) : Prop where
  l : T.l.length ≤ 1048576
  s : sizeD T.l ≤ 8388608
  D : T.D.length ≤ 1048576
  d : ∀ x ∈ T.l, x.2.2.length ≤ 1048576
def sumF (l : List OpD) : Nat := sizeD l
theorem sizeD_snoc (l : List OpD) (o : OpD) : sizeD (l ++ [o]) = sizeD l + (4 + o.2.2.length) := by simp [sizeD]
theorem sizeD_take {l : List OpD} {j : Nat} (h : j < l.length) : sizeD (l.take (j + 1)) = sizeD (l.take j) + (4 + l[j].2.2.length) := by rw [List.take_succ_eq_append_getElem h, sizeD_snoc]
theorem sizeD_le (l : List OpD) (j : Nat) : sizeD (l.take j) ≤ sizeD l := by
  have : ∀ (l : List OpD) (j : Nat), sizeD (l.take j) ≤ sizeD l := by
    intro l
    induction l with
    | nil => intro j; simp
    | cons a l ih =>
      intro j
      cases j with
      | zero => simp [sizeD]
      | succ j => have := ih j; simp only [List.take_succ_cons, sizeD, List.map_cons, List.sum_cons] at this ⊢; omega
  exact this l j
set_option maxHeartbeats 8000000 in
theorem geneveLength_any (w : World) (P X : Array Value) (p : PaG) (T : TuD) (hp : PaV P p) (h : TuG w X T) (ht : LitL T) :
    Calls Try.prog 5 #[.agg P, .agg X] w fun e w' => e = .returned (.bool true) ∧ Below w.heap.size w w' := by
  obtain ⟨W0, hW0, r0, z0, b0⟩ := alloc_tl w (.cells P 49)
  obtain ⟨W, hW, r1, z1, b1⟩ := alloc_tl W0 (.cells X 25)
  rw [z0] at r1
  have r0' := (b1.block w.heap.size (by omega)).trans r0
  have bW : Below w.heap.size w W := b0.trans (b1.mono (by omega))
  obtain ⟨hxs, hxo, hxx⟩ := tuG_size h
  have hps := hp.size
  have hpo := hp.one
  have HT := hide ht
  have HH := hide h
  have HPV := hide hp
  have KG := hide (fun (W1 : World) (b : Below w.heap.size w W1) => givenG_any W1 X T (h.below b) ht.l (Nat.le_trans ht.D (by decide)) (fun x hx => Nat.le_trans (ht.d x hx) (by decide)))
  have k36 := (hp.cells r0').2.2.2
  have f36 := frozen_of_row W w.heap.size 36 _ _ r0'
  have HW := hide (And.intro hW0 hW)
  have HB := hide bW
  have HR := hide (And.intro r0' r1)
  clear hW0 hW r0 z0 z1 b0 b1 bW hp h ht r0' r1
  go_enter Try.func5, Try.ntmps5
  go_upto_region 1 with (fail)
  change Code.wp _ _ _ _ ((w.alloc (.cells P 49)).alloc (.cells X 25))
  rw [HW.out.1, HW.out.2]
  go_upto_region 2 with (fail)
  obtain ⟨Wa, hWa⟩ : ∃ x, x = W.setCell ⟨w.heap.size, 36, none⟩ (.int .i64 65535) := ⟨_, rfl⟩
  rw [← hWa]
  have rPa := HPV.out.store HR.out.1 65535
  rw [← hWa] at rPa
  have gsa : W.grownBy Wa (some w.heap.size) := by rw [hWa]; exact grown_set W w.heap.size 36 _
  have rXa := (gsa.block (w.heap.size + 1) (Array.getElem?_eq_some_iff.1 HR.out.2).1 (by simp)).trans HR.out.2
  have BWa : Hid (Below w.heap.size w Wa) := hide (HB.out.grown gsa HB.out.size (fun k e => by cases e; exact Nat.le_refl _))
  have HVa := hide (HPV.out.turn 65535)
  obtain ⟨Pa, hPa⟩ : ∃ x, x = (paL (atMtu p 65535)).toArray := ⟨_, rfl⟩
  rw [← hPa] at rPa HVa
  clear hWa gsa hPa k36 f36
  have has := HVa.out.size
  have hax := HVa.out.x0
  have HRa := hide (And.intro rPa rXa)
  have HKKa := hide (fun (W1 : World) (b : Below Wa.heap.size Wa W1) => (⟨(b.block w.heap.size (Array.getElem?_eq_some_iff.1 HRa.out.1).1).trans HRa.out.1, (b.block (w.heap.size + 1) (Array.getElem?_eq_some_iff.1 HRa.out.2).1).trans HRa.out.2⟩ : W1.heap[w.heap.size]? = some (.cells Pa 49 (0, 0)) ∧ W1.heap[w.heap.size + 1]? = some (.cells X 25 (0, 0))))
  have p0a : Wa.drew.heap[w.heap.size]? = some (.cells Pa 49 (0, 0)) := rPa
  have q0a : Wa.drew.heap[w.heap.size + 1]? = some (.cells X 25 (0, 0)) := rXa
  have D0a : Hid (Below Wa.heap.size Wa Wa.drew) := hide (Below.refl Wa.heap.size Wa).drew
  obtain ⟨Ra, hRa⟩ : ∃ R, R = wrapG (atMtu p 65535) T := ⟨_, rfl⟩
  have HRRa := hide hRa
  have KWa := hide (fun (W1 : World) (Y : Array Value) (tg : TuG W1 Y T) => wrapG_any W1 Pa Y (atMtu p 65535) T HVa.out tg HT.out.l (Nat.le_trans HT.out.s (by decide)))
  rw [← hRa] at KWa
  have KPaa := hide (fun (W1 : World) => path_any W1 Pa (atMtu p 65535) HVa.out)
  clear hRa
  go_region_held3 (fun w' => w'.heap[w.heap.size]? = some (.cells Pa 49 (0, 0)) ∧ w'.heap[w.heap.size + 1]? = some (.cells X 25 (0, 0)))
    (first
      | exact ⟨p0a, q0a⟩
      | exact ⟨p1a, q1a⟩
      | exact ⟨p2a, q2a⟩
      | exact ⟨p3a, q3a⟩
      | fail)
    (first
      | (go_at_call 20; (with_reducible refine (KPaa.out _).mono ?_); rintro e v1a ⟨rfl, b1⟩; have D1a : Hid (Below Wa.heap.size Wa v1a) := hide (below_undrew' b1); obtain ⟨p1a, q1a⟩ := HKKa.out v1a D1a.out; clear b1)
      | (go_at_call 6; (with_reducible refine (KG.out v1a (BWa.out.trans (D1a.out.mono BWa.out.size))).mono ?_); rintro e v2a ⟨Ya, rfl, tg2, b2⟩; have D2a : Hid (Below Wa.heap.size Wa v2a) := hide (D1a.out.trans (b2.mono D1a.out.size)); have T2a := hide tg2; obtain ⟨p2a, q2a⟩ := HKKa.out v2a D2a.out; clear b2 tg2)
      | (go_at_call 19; (with_reducible refine (KWa.out v2a Ya T2a.out).mono ?_); rintro e v3a ⟨Aa, ca, rfl, o3, b3⟩; have D3a : Hid (Below Wa.heap.size Wa v3a) := hide (D2a.out.trans (b3.mono D2a.out.size)); have O3a : Hid (OwnB v3a Wa.heap.size (.slice Aa Ra.1.length ca) Ra.1) := hide ⟨o3.1, o3.2.imp id fun ⟨g, cap, cur, h1, h2, h3⟩ => ⟨g, cap, cur, h1, Nat.le_trans D2a.out.size h2, h3⟩⟩; obtain ⟨p3a, q3a⟩ := HKKa.out v3a D3a.out; clear b3 o3)
      | fail)
  have BVa : Hid (Below w.heap.size w v3a) := hide (BWa.out.trans (D3a.out.mono BWa.out.size))
  have H3a := hide (And.intro p3a q3a)
  clear p0a q0a p1a q1a p2a q2a p3a q3a KWa KPaa rPa rXa
  by_cases hE : Ra.2 = 0
  · obtain ⟨hlen, hn65, hwn, hwm⟩ := wrapG_len HPV.out.ls HPV.out.ld (by rw [← HRRa.out]; exact hE)
    rw [← HRRa.out] at hlen hwn
    obtain ⟨L, E⟩ := Ra
    simp only at hE hlen
    subst hE
    dsimp only at O3a
    (try dsimp only)
    obtain ⟨NF, hNF⟩ : ∃ x, x = lenF p T := ⟨_, rfl⟩
    rw [← hNF] at hlen hn65 hwn hwm
    have HWN := hide hwn
    have HWM := hide hwm
    obtain ⟨A0, c0, l0, I0, k0, hX, hp⟩ := HH.out
    obtain ⟨n, hn⟩ : ∃ n, n = l0.length := ⟨_, rfl⟩
    obtain ⟨m, hm⟩ : ∃ m, m = T.D.length := ⟨_, rfl⟩
    have hnl := hp.len
    rw [← hn] at hX hnl
    rw [← hm] at hX
    have HCX := hide (fun (W1 : World) (r : W1.heap[w.heap.size + 1]? = some (.cells X 25 (0, 0))) => (by rw [hX] at r; have c := tunA_cells r; exact ⟨c.2.2.2.1, c.2.2.2.2⟩ : W1.cell? ⟨w.heap.size + 1, 3, none⟩ = some (.slice A0 n c0) ∧ W1.cell? ⟨w.heap.size + 1, 4, none⟩ = some (.slice I0 m k0)))
    have hm20 : m ≤ 1048576 := by rw [hm]; exact HT.out.D
    have hn20 : n ≤ 1048576 := by rw [hnl]; exact HT.out.l
    obtain ⟨sv, hsv⟩ : ∃ x, x = p.sv := ⟨_, rfl⟩
    obtain ⟨n0, hn0⟩ : ∃ x : Nat, x = 36 + m + (if sv then 20 else 0) := ⟨_, rfl⟩
    have HNF : Hid (NF = n0 + sizeD T.l) := hide (by rw [hNF, hn0, hsv, hm]; unfold lenF; split <;> omega)
    have HSZ := hide HT.out.s
    have hn0b : n0 ≤ 1048632 := by rw [hn0]; split <;> omega
    have d0 : v3a.cell? ⟨w.heap.size, 0, none⟩ = some (.bool p.sv) := (HVa.out.cells H3a.out.1).1
    rw [← hsv] at d0
    obtain ⟨d3, d4⟩ := HCX.out v3a H3a.out.2
    have hw1 : IntKind.i64.wrap (36 + (m : Int)) = 36 + (m : Int) := IntWalk.i64_in _ (by omega)
    have hw2 : IntKind.i64.wrap (36 + (m : Int) + 20) = 36 + (m : Int) + 20 := IntWalk.i64_in _ (by omega)
    have HP := hide hp
    have HN := hide (And.intro hn hnl)
    have HLEN := hide hlen
    have HN0 := hide hn0
    clear hwn hwm hX hp hn hnl hm hNF hsv hlen
    go_upto_if 36 with (fail)
    go_cut [7] from 37 to 38 (fun v wx => v = .int .i64 (n0 : Int) ∧ wx = v3a)
    case first =>
      cases sv
      all_goals (
        go_wp2
        go_meet
        exact ⟨by rw [hn0]; simp; (try omega), rfl⟩)
    case rest =>
      obtain ⟨rfl, hwc⟩ := hcut
      rw [hwc]
      clear hwc hn0 d0 hw1 hw2 d4
      go_wp2
      go_loopw [7, 8] (fun v7 v8 wr => ∃ j : Nat, j ≤ n ∧ v8 = .int .i64 (j : Int) ∧ v7 = .int .i64 ((n0 + sizeD (T.l.take j) : Nat) : Int) ∧ Hid (Below v3a.heap.size v3a wr)) (fun _ v _ => n - (intOf v).toNat)
      case atStart => exact ⟨0, by omega, rfl, by simp [sizeD], hide (Below.refl _ _)⟩
      case round =>
        obtain ⟨j, hj, rfl, rfl, hb⟩ := hrel
        obtain ⟨d3, -⟩ := HCX.out wr ((hb.out.block (w.heap.size + 1) (Array.getElem?_eq_some_iff.1 H3a.out.2).1).trans H3a.out.2)
        by_cases hlt : j < n
        · have hjl : j < l0.length := by rw [← HN.out.1]; exact hlt
          have hjT : j < T.l.length := by rw [← HN.out.2]; exact hlt
          obtain ⟨bb, off, rfl, hbB, hc⟩ := HP.out.rd (by omega)
          obtain ⟨-, -, e2⟩ := hc j hjl
          have hsay := say_get HP.out.say hjl hjT
          have hst := sizeD_take hjT
          have hsl := sizeD_le T.l (j + 1)
          rw [hsay] at hst
          simp only at hst
          obtain ⟨xa, hxa⟩ : ∃ x, x = l0[j].a := ⟨_, rfl⟩
          obtain ⟨xk, hxk⟩ : ∃ x, x = l0[j].k := ⟨_, rfl⟩
          obtain ⟨xn, hxn⟩ : ∃ x, x = l0[j].d.length := ⟨_, rfl⟩
          rw [← hxa, ← hxk, ← hxn] at e2
          rw [← hxn] at hst
          obtain ⟨SJ, hSJ⟩ : ∃ x, x = sizeD (T.l.take j) := ⟨_, rfl⟩
          rw [← hSJ] at hst ⊢
          have f2 : wr.cell? ⟨bb, off + j * 3 + 2, none⟩ = some (.slice xa xn xk) := ((BVa.out.trans (hb.out.mono BVa.out.size)).cell (show (⟨bb, off + j * 3 + 2, none⟩ : Addr).block < w.heap.size from hbB)).trans e2
          have hs8 := HSZ.out
          have hw3 : IntKind.i64.wrap (((n0 + SJ : Nat) : Int) + 4) = ((n0 + SJ : Nat) : Int) + 4 := IntWalk.i64_in _ (by omega)
          have hw4 : IntKind.i64.wrap (((n0 + SJ : Nat) : Int) + 4 + (xn : Int)) = ((n0 + SJ : Nat) : Int) + 4 + (xn : Int) := IntWalk.i64_in _ (by omega)
          obtain ⟨NJ, hNJ⟩ : ∃ x, x = n0 + SJ := ⟨_, rfl⟩
          rw [← hNJ] at hw3 hw4 ⊢
          have HNJ : Hid ((NJ : Int) + 4 + (xn : Int) = ((n0 + sizeD (T.l.take (j + 1)) : Nat) : Int)) := hide (by rw [hst, hNJ]; push_cast; omega)
          have hj1 : (j : Int) < (n : Int) := by omega
          have hj0 : (0 : Int) ≤ (j : Int) := by omega
          have HBb := hide hb.out
          clear hc e2 hsay hst hsl hbB hxa hxk hxn hSJ hNJ hs8 hjl hjT hb
          go_wp2
          go_roundw
          case rel => exact ⟨j + 1, by omega, by go_num, by rw [← HNJ.out], HBb⟩
          case measure => simp [intOf]; omega
        · have hjn : j = n := by omega
          subst hjn
          rw [show T.l.take j = T.l from List.take_of_length_le (by rw [← HN.out.2]; exact Nat.le_refl _), ← HNF.out]
          have hne : ((L.length : Int) != (NF : Int)) = false := by rw [HLEN.out]; simp
          have rPw := (hb.out.block w.heap.size (Array.getElem?_eq_some_iff.1 H3a.out.1).1).trans H3a.out.1
          have rXw := (hb.out.block (w.heap.size + 1) (Array.getElem?_eq_some_iff.1 H3a.out.2).1).trans H3a.out.2
          have BWr : Hid (Below w.heap.size w wr) := hide (BVa.out.trans (hb.out.mono BVa.out.size))
          have O3w : Hid (OwnB wr Wa.heap.size (.slice Aa L.length ca) L) := hide (O3a.out.onL hb.out)
          have k36 := (HVa.out.cells rPw).2.2.2
          have f36 := frozen_of_row wr w.heap.size 36 _ _ rPw
          have HRW := hide (And.intro rPw rXw)
          have HWAs : Hid (w.heap.size < Wa.heap.size) := hide (Array.getElem?_eq_some_iff.1 HRa.out.1).1
          have hlt2 := hide hlt
          have d3x := hide d3
          clear hb hlt rPw rXw
          go_upto_region 15 with (fail)
          obtain ⟨Wb, hWb⟩ : ∃ x, x = wr.setCell ⟨w.heap.size, 36, none⟩ (.int .i64 (NF : Int)) := ⟨_, rfl⟩
          rw [← hWb]
          have rPb := HVa.out.store HRW.out.1 (NF : Int)
          rw [← hWb] at rPb
          have gsb : wr.grownBy Wb (some w.heap.size) := by rw [hWb]; exact grown_set wr w.heap.size 36 _
          have rXb := (gsb.block (w.heap.size + 1) (Array.getElem?_eq_some_iff.1 HRW.out.2).1 (by simp)).trans HRW.out.2
          have BWb : Hid (Below w.heap.size w Wb) := hide (BWr.out.grown gsb BWr.out.size (fun k e => by cases e; exact Nat.le_refl _))
          have O3x : Hid (OwnB Wb Wa.heap.size (.slice Aa L.length ca) L) := hide (World.ownsRow.kept O3w.out gsb (by
            by_cases e : (Value.slice Aa L.length ca).ownBlock = some w.heap.size
            · have h5 := (World.ownsRow.lt O3w.out _ e).1; have h6 := HWAs.out; omega
            · exact .inr e))
          have HVb := hide (HPV.out.turn (NF : Int))
          obtain ⟨Pb, hPb⟩ : ∃ x, x = (paL (atMtu p (NF : Int))).toArray := ⟨_, rfl⟩
          rw [← hPb] at HVb
          have rPb : Wb.heap[w.heap.size]? = some (.cells Pb 49 (0, 0)) := by rw [hPb]; exact rPb
          clear hWb gsb hPb k36 f36 hne d3
          have hbs := HVb.out.size
          have hbx := HVb.out.x0
          have HRb := hide (And.intro rPb rXb)
          have HKKb := hide (fun (W1 : World) (b : Below Wb.heap.size Wb W1) => (⟨(b.block w.heap.size (Array.getElem?_eq_some_iff.1 HRb.out.1).1).trans HRb.out.1, (b.block (w.heap.size + 1) (Array.getElem?_eq_some_iff.1 HRb.out.2).1).trans HRb.out.2⟩ : W1.heap[w.heap.size]? = some (.cells Pb 49 (0, 0)) ∧ W1.heap[w.heap.size + 1]? = some (.cells X 25 (0, 0))))
          have p0b : Wb.drew.heap[w.heap.size]? = some (.cells Pb 49 (0, 0)) := rPb
          have q0b : Wb.drew.heap[w.heap.size + 1]? = some (.cells X 25 (0, 0)) := rXb
          have D0b : Hid (Below Wb.heap.size Wb Wb.drew) := hide (Below.refl Wb.heap.size Wb).drew
          obtain ⟨Rb, hRb⟩ : ∃ R, R = wrapG (atMtu p (NF : Int)) T := ⟨_, rfl⟩
          have HRRb := hide hRb
          have KWb := hide (fun (W1 : World) (Y : Array Value) (tg : TuG W1 Y T) => wrapG_any W1 Pb Y (atMtu p (NF : Int)) T HVb.out tg HT.out.l (Nat.le_trans HT.out.s (by decide)))
          rw [← hRb] at KWb
          have KPab := hide (fun (W1 : World) => path_any W1 Pb (atMtu p (NF : Int)) HVb.out)
          clear hRb
          go_region_held3 (fun w' => w'.heap[w.heap.size]? = some (.cells Pb 49 (0, 0)) ∧ w'.heap[w.heap.size + 1]? = some (.cells X 25 (0, 0)))
            (first
              | exact ⟨p0b, q0b⟩
              | exact ⟨p1b, q1b⟩
              | exact ⟨p2b, q2b⟩
              | exact ⟨p3b, q3b⟩
              | fail)
            (first
              | (go_at_call 20; (with_reducible refine (KPab.out _).mono ?_); rintro e v1b ⟨rfl, b1⟩; have D1b : Hid (Below Wb.heap.size Wb v1b) := hide (below_undrew' b1); obtain ⟨p1b, q1b⟩ := HKKb.out v1b D1b.out; clear b1)
              | (go_at_call 6; (with_reducible refine (KG.out v1b (BWb.out.trans (D1b.out.mono BWb.out.size))).mono ?_); rintro e v2b ⟨Yb, rfl, tg2, b2⟩; have D2b : Hid (Below Wb.heap.size Wb v2b) := hide (D1b.out.trans (b2.mono D1b.out.size)); have T2b := hide tg2; obtain ⟨p2b, q2b⟩ := HKKb.out v2b D2b.out; clear b2 tg2)
              | (go_at_call 19; (with_reducible refine (KWb.out v2b Yb T2b.out).mono ?_); rintro e v3b ⟨Ab, cb, rfl, o3, b3⟩; have D3b : Hid (Below Wb.heap.size Wb v3b) := hide (D2b.out.trans (b3.mono D2b.out.size)); have O3b : Hid (OwnB v3b Wb.heap.size (.slice Ab Rb.1.length cb) Rb.1) := hide ⟨o3.1, o3.2.imp id fun ⟨g, cap, cur, h1, h2, h3⟩ => ⟨g, cap, cur, h1, Nat.le_trans D2b.out.size h2, h3⟩⟩; obtain ⟨p3b, q3b⟩ := HKKb.out v3b D3b.out; clear b3 o3)
              | fail)
          have BVb : Hid (Below w.heap.size w v3b) := hide (BWb.out.trans (D3b.out.mono BWb.out.size))
          have H3b := hide (And.intro p3b q3b)
          clear p0b q0b p1b q1b p2b q2b p3b q3b KWb KPab rPb rXb
          have hRb : Rb = (L, 0) := HRRb.out.trans HWN.out
          subst hRb
          dsimp only at O3b
          (try dsimp only)
          have O3y : Hid (OwnB v3b Wa.heap.size (.slice Aa L.length ca) L) := hide (O3x.out.onL (D3b.out.mono (Nat.le_refl _)))
          have k36 := (HVb.out.cells H3b.out.1).2.2.2
          have f36 := frozen_of_row v3b w.heap.size 36 _ _ H3b.out.1
          have hw5 : IntKind.i64.wrap ((NF : Int) - 1) = (NF : Int) - 1 := IntWalk.i64_in _ (by omega)
          go_upto_region 17 with (fail)
          obtain ⟨Wc, hWc⟩ : ∃ x, x = v3b.setCell ⟨w.heap.size, 36, none⟩ (.int .i64 ((NF : Int) - 1)) := ⟨_, rfl⟩
          rw [← hWc]
          have rPc := HVb.out.store H3b.out.1 ((NF : Int) - 1)
          rw [← hWc] at rPc
          have gsc : v3b.grownBy Wc (some w.heap.size) := by rw [hWc]; exact grown_set v3b w.heap.size 36 _
          have rXc := (gsc.block (w.heap.size + 1) (Array.getElem?_eq_some_iff.1 H3b.out.2).1 (by simp)).trans H3b.out.2
          have BWc : Hid (Below w.heap.size w Wc) := hide (BVb.out.grown gsc BVb.out.size (fun k e => by cases e; exact Nat.le_refl _))
          have HWBs : Hid (w.heap.size < Wb.heap.size) := hide (Array.getElem?_eq_some_iff.1 HRb.out.1).1
          have O3z : Hid (OwnB Wc Wa.heap.size (.slice Aa L.length ca) L) := hide (World.ownsRow.kept O3y.out gsc (by
            by_cases e : (Value.slice Aa L.length ca).ownBlock = some w.heap.size
            · have h5 := (World.ownsRow.lt O3y.out _ e).1; have h6 := HWAs.out; omega
            · exact .inr e))
          have O4z : Hid (OwnB Wc Wb.heap.size (.slice Ab L.length cb) L) := hide (World.ownsRow.kept O3b.out gsc (by
            by_cases e : (Value.slice Ab L.length cb).ownBlock = some w.heap.size
            · have h5 := (World.ownsRow.lt O3b.out _ e).1; have h6 := HWBs.out; omega
            · exact .inr e))
          have HVc := hide (HPV.out.turn ((NF : Int) - 1))
          obtain ⟨Pc, hPc⟩ : ∃ x, x = (paL (atMtu p ((NF : Int) - 1))).toArray := ⟨_, rfl⟩
          rw [← hPc] at HVc
          have rPc : Wc.heap[w.heap.size]? = some (.cells Pc 49 (0, 0)) := by rw [hPc]; exact rPc
          clear hWc gsc hPc k36 f36 hw5
          have hcs := HVc.out.size
          have hcx := HVc.out.x0
          have HRc := hide (And.intro rPc rXc)
          have HKKc := hide (fun (W1 : World) (b : Below Wc.heap.size Wc W1) => (⟨(b.block w.heap.size (Array.getElem?_eq_some_iff.1 HRc.out.1).1).trans HRc.out.1, (b.block (w.heap.size + 1) (Array.getElem?_eq_some_iff.1 HRc.out.2).1).trans HRc.out.2⟩ : W1.heap[w.heap.size]? = some (.cells Pc 49 (0, 0)) ∧ W1.heap[w.heap.size + 1]? = some (.cells X 25 (0, 0))))
          have p0c : Wc.drew.heap[w.heap.size]? = some (.cells Pc 49 (0, 0)) := rPc
          have q0c : Wc.drew.heap[w.heap.size + 1]? = some (.cells X 25 (0, 0)) := rXc
          have D0c : Hid (Below Wc.heap.size Wc Wc.drew) := hide (Below.refl Wc.heap.size Wc).drew
          obtain ⟨Rc, hRc⟩ : ∃ R, R = wrapG (atMtu p ((NF : Int) - 1)) T := ⟨_, rfl⟩
          have HRRc := hide hRc
          have KWc := hide (fun (W1 : World) (Y : Array Value) (tg : TuG W1 Y T) => wrapG_any W1 Pc Y (atMtu p ((NF : Int) - 1)) T HVc.out tg HT.out.l (Nat.le_trans HT.out.s (by decide)))
          rw [← hRc] at KWc
          have KPac := hide (fun (W1 : World) => path_any W1 Pc (atMtu p ((NF : Int) - 1)) HVc.out)
          clear hRc
          go_region_held3 (fun w' => w'.heap[w.heap.size]? = some (.cells Pc 49 (0, 0)) ∧ w'.heap[w.heap.size + 1]? = some (.cells X 25 (0, 0)))
            (first
              | exact ⟨p0c, q0c⟩
              | exact ⟨p1c, q1c⟩
              | exact ⟨p2c, q2c⟩
              | exact ⟨p3c, q3c⟩
              | fail)
            (first
              | (go_at_call 20; (with_reducible refine (KPac.out _).mono ?_); rintro e v1c ⟨rfl, b1⟩; have D1c : Hid (Below Wc.heap.size Wc v1c) := hide (below_undrew' b1); obtain ⟨p1c, q1c⟩ := HKKc.out v1c D1c.out; clear b1)
              | (go_at_call 6; (with_reducible refine (KG.out v1c (BWc.out.trans (D1c.out.mono BWc.out.size))).mono ?_); rintro e v2c ⟨Yc, rfl, tg2, b2⟩; have D2c : Hid (Below Wc.heap.size Wc v2c) := hide (D1c.out.trans (b2.mono D1c.out.size)); have T2c := hide tg2; obtain ⟨p2c, q2c⟩ := HKKc.out v2c D2c.out; clear b2 tg2)
              | (go_at_call 19; (with_reducible refine (KWc.out v2c Yc T2c.out).mono ?_); rintro e v3c ⟨Ac, cc, rfl, o3, b3⟩; have D3c : Hid (Below Wc.heap.size Wc v3c) := hide (D2c.out.trans (b3.mono D2c.out.size)); have O3c : Hid (OwnB v3c Wc.heap.size (.slice Ac Rc.1.length cc) Rc.1) := hide ⟨o3.1, o3.2.imp id fun ⟨g, cap, cur, h1, h2, h3⟩ => ⟨g, cap, cur, h1, Nat.le_trans D2c.out.size h2, h3⟩⟩; obtain ⟨p3c, q3c⟩ := HKKc.out v3c D3c.out; clear b3 o3)
              | fail)
          have BVc : Hid (Below w.heap.size w v3c) := hide (BWc.out.trans (D3c.out.mono BWc.out.size))
          have H3c := hide (And.intro p3c q3c)
          clear p0c q0c p1c q1c p2c q2c p3c q3c KWc KPac rPc rXc
          have hRc : Rc = ([], 16) := HRRc.out.trans HWM.out
          subst hRc
          (try dsimp only)
          have x1 := (O3z.out.onL D3c.out).cvL
          have x2 := (O4z.out.onL D3c.out).cvL
          have x1d : (convert 23 9 (.slice Aa L.length ca)).run Try.prog v3c.drew = .ok (.string ⟨L.toArray⟩) v3c.drew := ((O3z.out.onL D3c.out).drewN 1).cvL
          have x2d : (convert 23 9 (.slice Ab L.length cb)).run Try.prog v3c.drew = .ok (.string ⟨L.toArray⟩) v3c.drew := ((O4z.out.onL D3c.out).drewN 1).cvL
          go_wp2_with (first | (go_at_call 11; (with_reducible refine (known7_any _).mono ?_); rintro e v9 ⟨rfl, b9⟩) | fail)
          all_goals (
            go_ret
            exact ⟨rfl, BVc.out.trans (b9.mono BVc.out.size)⟩)
  · have hnil : Ra.1 = [] := by rw [HRRa.out]; exact wrapG_bad (by rw [← HRRa.out]; exact hE)
    obtain ⟨L, E⟩ := Ra
    simp only at hE hnil
    subst hnil
    have hEn : (E != 0) = true := by simpa using hE
    clear hE
    go_wp2_with fail
    refine (known7_any v3a).mono ?_
    rintro e w8 ⟨rfl, b8⟩
    have DF : Hid (Below w.heap.size w w8) := hide (BVa.out.trans (b8.mono BVa.out.size))
    clear b8
    (try dsimp only)
    go_wp2
    go_ret
    exact ⟨rfl, DF.out⟩
end Go.Proofs.Ytdmlgogjipcggaa
end
