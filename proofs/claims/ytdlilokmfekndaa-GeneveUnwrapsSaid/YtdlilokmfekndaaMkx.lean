import Derived.Test.YtdlilokmfekndaaMku
import Derived.Test.YtdlilokmfekndaaKg
import Derived.Test.YtdlilokmfekndaaKj
import Derived.Test.YtdlilokmfekndaaMkp
import Derived.Test.YtdlilokmfekndaaKm
section
/-
  The walk of the document's own: the sum of a segment's bytes within a packet.
-/
namespace Go.Proofs.Ytdlilokmfekndaa
open Go.RowKit
attribute [local go_sem ↓] exec_span exec_put exec_build heap_alloc_new heap_old heap_alloc_drew
attribute [local go_sem] spanQ_ptr spanC_some heap_of_drew heap_of_drewN rs_arr rs_ad rs_ip rs_rip rs_seg rs_rseg putAt_ptr putOk_ptr oldOk_some World.setRow_alloc_new setRow_drew
set_option maxRecDepth 100000
set_option linter.unusedVariables false
set_option linter.unusedSimpArgs false

theorem addS_put (s : Nat) (b : List UInt8) (k : Nat) (hs : s ≤ 65535) (hk : k % 2 = 0) (hb : k + 2 ≤ b.length) : addS s ((b.set k 0).set (k + 1) 0) = addS (addS s (b.take k)) (b.drop (k + 2)) := by
  obtain ⟨a, x, y, d, rfl, rfl⟩ := split_at hb
  rw [set_two, List.take_left, addS_append _ _ _ hk, addS_append _ _ _ (by rfl)]
  have e : ∀ r : Nat, r ≤ 65535 → addS r [0, 0] = r := fun r hr => by
    show rnd r (0 * 256 + 0) = r
    unfold rnd
    rw [if_neg (by omega)]
    omega
  rw [e _ (addS_le _ _ hs)]
  congr 1
  rw [List.drop_append, List.drop_of_length_le (l := a) (by omega), show a.length + 2 - a.length = 2 by omega]
  rfl
set_option maxHeartbeats 1000000 in
theorem placeR_any (w : World) (p : Int) : Calls Try.prog 76 #[.int .i64 p] w fun e w' => e = .returned (.int .i64 (if p = 6 then 16 else 6)) ∧ w = w' := by
  by_cases hp : p = 6
  · subst hp
    go_enter Try.func76, Try.ntmps76
    go_wp2
    go_ret
    exact ⟨rfl, rfl⟩
  · have e : (p == 6) = false := by simpa using hp
    rw [if_neg hp]
    clear hp
    go_enter Try.func76, Try.ntmps76
    go_wp2
    go_ret
    exact ⟨rfl, rfl⟩
set_option maxHeartbeats 4000000 in
theorem refown5_any (w : World) (X : Array Value) (h : Ip) (x : IpV X h) (hp : h.p = 6 ∨ h.p = 17) (A : Option Addr) (c : Nat) (b : List UInt8) (hb : Byt w w.heap.size A b) (hlc : b.length ≤ c) (hn : b.length ≤ 140737488351232) (hnil : A = none → c = 0) (hat : atS h.p + 2 ≤ b.length) :
    Calls Try.prog 59 #[.agg X, .slice A b.length c] w fun e w' => e = .returned (.int .i64 ((sumV h b (atS h.p) : Nat) : Int)) ∧ Below w.heap.size w w' := by
  have hxs := x.size
  have hxr := x.x0
  obtain ⟨W, hW, r1, hz, hbW⟩ := one_block w (.cells X 58)
  obtain ⟨k, hk⟩ : ∃ k, k = atS h.p := ⟨_, rfl⟩
  have KP := hide (fun (W1 : World) => placeR_any W1 h.p)
  have hki : (if h.p = 6 then (16 : Int) else 6) = (k : Int) := by rw [hk]; unfold atS; split <;> rfl
  rw [hki] at KP
  rw [← hk] at hat
  have hke : k % 2 = 0 := by rw [hk]; unfold atS; split <;> rfl
  have hk16 : k ≤ 16 := by rw [hk]; unfold atS; split <;> omega
  obtain ⟨S, hS⟩ : ∃ S, S = addS (addS (pseS { h with nd := b.length }) (b.take k)) (b.drop (k + 2)) := ⟨_, rfl⟩
  have hS65 : S ≤ 65535 := by rw [hS]; exact addS_le _ _ (addS_le _ _ (pseS_le _))
  obtain ⟨R, hRR⟩ : ∃ R, R = sumV h b (atS h.p) := ⟨_, rfl⟩
  have HV : Hid (R = if 65535 - S = 0 ∧ h.p = 17 then 65535 else 65535 - S) := hide (by rw [hRR, hS, ← hk]; rfl)
  rw [← hRR]
  clear hRR
  have HSP := hide (addS_put (pseS { h with nd := b.length }) b k (pseS_le _) hke hat)
  rw [← hS] at HSP
  have c35 := (x.cells r1).c35
  have HB := hide hbW
  have HZ := hide hz
  have HX := hide x
  have HR1 := hide r1
  have HK := hide hk
  have hat' := hide hat
  obtain ⟨p, hpp⟩ : ∃ p, p = h.p := ⟨_, rfl⟩
  rw [← hpp] at c35 KP hp HV
  have HPP := hide hpp
  have HN := hide hn
  clear hbW hz x hk hki hpp hS hke hat r1
  go_enter Try.func59, Try.ntmps59
  go_wp2_with (at_builtin; refine wpList_app_bytes rfl (.tmp 8) (.tmp 9) rfl W.heap.size (.slice none 0 0) [] b w.heap.size c A rfl rfl (OwnB.nil _ _) (by exact hb.below HB.out) hnil (by simp; have := HN.out; omega) (Nat.le_refl _) ?_)
  intro v2 w2 o2 g2 a2
  have B2 : Hid (Below W.heap.size W w2) := hide ((Below.refl _ _).grown g2 (Nat.le_refl _) (fun i hi => by simp [Value.ownBlock] at hi))
  -- the appended bytes
  obtain ⟨g, cap, rfl, hlc2, hg1, hg2⟩ := o2.pos (by have := hat'.out; omega)
  have HO2 := hide o2
  have HG1 := hide hg1
  have HLC2 := hide hlc2
  have r2 := (B2.out.block w.heap.size (by have := HZ.out; omega)).trans HR1.out
  have d35 := (HX.out.cells r2).c35
  rw [← HPP.out] at d35
  clear o2 g2 a2 hg1 hg2 hlc2 c35
  go_wp2_with fail
  refine (KP.out w2).mono ?_
  rintro e w3 ⟨rfl, rfl⟩
  -- both bytes of the sum's place are zeros
  have hkl : k < b.length := by have := hat'.out; omega
  have hkl1 : k + 1 < b.length := by have := hat'.out; omega
  have hkl' : (k : Int) < (b.length : Int) := by omega
  have hkl1' : (k : Int) + 1 < (b.length : Int) := by omega
  have hkw : IntKind.i64.wrap ((k : Int) + 1) = ((k + 1 : Nat) : Int) := by rw [show (k : Int) + 1 = ((k + 1 : Nat) : Int) by omega]; exact IntWalk.i64_in _ (by omega)
  have ck : w2.cell? ⟨g, k, none⟩ = some (.int .u8 (b[k].toNat : Int)) := HO2.out.cell k hkl
  have fk : w2.frozen? ⟨g, k, none⟩ = false := HO2.out.frozen k
  have o3 := putByte HO2.out k hkl 0
  have g3 := (World.ownsRow.stored HO2.out k (.int .u8 ((0 : UInt8).toNat : Int))).2
  obtain ⟨w3, hw3⟩ : ∃ w3, w2.setCell ⟨g, k, none⟩ (.int .u8 0) = w3 := ⟨_, rfl⟩
  have hw3' : w2.setCell ⟨g, k, none⟩ (.int .u8 ((0 : UInt8).toNat : Int)) = w3 := hw3
  rw [hw3'] at o3 g3
  have hl3 : (b.set k 0).length = b.length := List.length_set
  have o3' : OwnB w3 W.heap.size (.slice (some ⟨g, 0, none⟩) (b.set k 0).length cap) (b.set k 0) := by rw [hl3]; exact o3
  obtain ⟨u1, ck1⟩ : ∃ u, w3.cell? ⟨g, k + 1, none⟩ = some u := ⟨_, o3'.cell (k + 1) (by rw [hl3]; exact hkl1)⟩
  have fk1 : w3.frozen? ⟨g, k + 1, none⟩ = false := o3'.frozen (k + 1)
  have o4 := putByte o3' (k + 1) (by rw [hl3]; exact hkl1) 0
  have g4 := (World.ownsRow.stored o3' (k + 1) (.int .u8 ((0 : UInt8).toNat : Int))).2
  obtain ⟨w4, hw4⟩ : ∃ w4, w3.setCell ⟨g, k + 1, none⟩ (.int .u8 0) = w4 := ⟨_, rfl⟩
  have hw4' : w3.setCell ⟨g, k + 1, none⟩ (.int .u8 ((0 : UInt8).toNat : Int)) = w4 := hw4
  rw [hw4'] at o4 g4
  have B3 : Below W.heap.size W w3 := B2.out.grown g3 B2.out.size (fun i e => by cases e; exact HG1.out)
  have B4 : Below W.heap.size W w4 := B3.grown g4 B3.size (fun i e => by cases e; exact HG1.out)
  have hB4 := hide B4
  have r4 := (B4.block w.heap.size (by have := HZ.out; omega)).trans HR1.out
  obtain ⟨L, hL⟩ : ∃ L, L = (b.set k 0).set (k + 1) 0 := ⟨_, rfl⟩
  have hLl : L.length = b.length := by rw [hL, List.length_set, hl3]
  have o4' : OwnB w4 W.heap.size (.slice (some ⟨g, 0, none⟩) L.length cap) L := by rw [hLl, hL]; rw [hl3] at o4; exact o4
  have HO4 := hide o4'
  have k42 := (HX.out.cells r4).c42
  have f42 := frozen_of_row w4 w.heap.size 42 _ _ r4
  have r5 := heap_setCell_same w4 w.heap.size 42 _ _ (.slice (some ⟨g, 0, none⟩) b.length cap) r4
  have g5 := grown_set w4 w.heap.size 42 (.slice (some ⟨g, 0, none⟩) b.length cap)
  rw [HX.out.eq, ip_set42 _ HX.out.ls HX.out.ld] at r5
  obtain ⟨X5, hX5⟩ : ∃ X5, X5 = (ipL (datH h (some ⟨g, 0, none⟩) b.length cap)).toArray := ⟨_, rfl⟩
  obtain ⟨w5, hw5⟩ : ∃ w5, w4.setCell ⟨w.heap.size, 42, none⟩ (.slice (some ⟨g, 0, none⟩) b.length cap) = w5 := ⟨_, rfl⟩
  have r5' : w5.heap[w.heap.size]? = some (.cells X5 58 (0, 0)) := by rw [← hw5, hX5]; exact r5
  rw [hw5] at g5
  have V5 : IpV X5 (datH h (some ⟨g, 0, none⟩) b.length cap) := ⟨hX5, HX.out.ls, HX.out.ld⟩
  have h5s := V5.size
  have h50 := V5.x0
  have o5 : OwnB w5 W.heap.size (.slice (some ⟨g, 0, none⟩) L.length cap) L := World.ownsRow.kept HO4.out g5 (.inr (by simp [Value.ownBlock]; have := HG1.out; have := HZ.out; omega))
  have B5 : Hid (Below w.heap.size w w5) := hide ((HB.out.trans (hB4.out.mono HB.out.size)).grown g5 (Nat.le_trans HB.out.size hB4.out.size) (fun i e => by cases e; exact Nat.le_refl _))
  have KS := refpseudo_any w5 X5 (datH h (some ⟨g, 0, none⟩) b.length cap) V5 (by show b.length ≤ _; have := HN.out; omega)
  have hps : pseS (datH h (some ⟨g, 0, none⟩) b.length cap) = pseS { h with nd := b.length } := rfl
  rw [hps] at KS
  have KA := hide (fun (W1 : World) (bb : Below w5.heap.size w5 W1) => refadd_any (pseS { h with nd := b.length }) (some ⟨g, 0, none⟩) cap L w5.heap.size W1 (pseS_le _) (by rw [hLl]; exact HLC2.out) (by rw [hLl]; have := HN.out; omega) ((OwnB.byt (c := cap) o5 (by exact o5.lt)).below bb))
  rw [hLl] at KA
  obtain ⟨P0, hP0⟩ : ∃ P0, P0 = pseS { h with nd := b.length } := ⟨_, rfl⟩
  rw [← hP0] at KS KA HSP
  rw [← hL] at HSP
  rw [HSP.out] at KA
  have HKS := hide KS
  have V6 := V5
  clear KS hps o5 o4' o4 o3' o3 g3 g4 g5 r5 r4 B3 B4 hw3' hw4' hL hLl hX5 V5 hP0 hl3 r2 d35
  dsimp only
  go_wp2_with fail
  refine HKS.out.mono ?_
  rintro e w6 ⟨rfl, b6⟩
  have hb6 := hide b6
  clear b6
  dsimp only
  go_wp2_with fail
  refine (KA.out w6 hb6.out).mono ?_
  rintro e w7 ⟨rfl, rfl⟩
  obtain ⟨q, hq⟩ : ∃ q : Nat, q = 65535 - S := ⟨_, rfl⟩
  have c1 : IntKind.i64.wrap (S : Int) = (S : Int) := IntWalk.i64_in _ (by omega)
  have c2 : IntKind.i64.wrap (65535 - (S : Int)) = (q : Int) := by rw [show 65535 - (S : Int) = (q : Int) by omega]; exact IntWalk.i64_in _ (by omega)
  have r6 := (hb6.out.block w.heap.size (by exact (Array.getElem?_eq_some_iff.mp r5').1)).trans r5'
  have d5 : w6.cell? ⟨w.heap.size, 35, none⟩ = some (.int .i64 p) := by rw [HPP.out]; exact (V6.cells r6).c35
  have BW := hide (B5.out.trans (hb6.out.mono B5.out.size))
  have hq1 : q = 65535 - S := hq
  clear hq r6
  rw [← hq1] at HV
  clear hq1
  dsimp only
  rcases hp with hp6 | hp6
  · have E := hide (show R = q by rw [HV.out, if_neg (by omega)])
    clear HV
    subst hp6
    go_wp2
    go_ret
    exact ⟨by rw [E.out]; rfl, BW.out⟩
  · by_cases hq0 : q = 0
    · have E := hide (show R = 65535 by rw [HV.out, if_pos ⟨hq0, hp6⟩])
      clear HV
      subst hp6 hq0
      go_wp2
      go_ret
      exact ⟨by rw [E.out]; rfl, BW.out⟩
    · have E := hide (show R = q by rw [HV.out, if_neg (by omega)])
      have hq1 : ((q : Int) == 0) = false := by simpa using (by omega : (q : Int) ≠ 0)
      clear HV
      subst hp6
      go_wp2
      go_ret
      exact ⟨by rw [E.out]; rfl, BW.out⟩
end Go.Proofs.Ytdlilokmfekndaa

end
section
/-
  The walk of the document's own Parse: of a datagram.
-/
namespace Go.Proofs.Ytdlilokmfekndaa
open Go.RowKit
attribute [local go_sem ↓] exec_span exec_put exec_build heap_alloc_new heap_old heap_alloc_drew
attribute [local go_sem] spanQ_ptr spanC_some heap_of_drew heap_of_drewN rs_arr rs_ad rs_ip rs_rip rs_seg rs_rseg putAt_ptr putOk_ptr oldOk_some World.setRow_alloc_new setRow_drew
set_option maxRecDepth 100000
set_option linter.unusedVariables false
set_option linter.unusedSimpArgs false

theorem numQ_got (l : List UInt8) (k j : Nat) (h1 : 1 ≤ j) (h8 : j ≤ 8) : numQ l k 0 (j : Int) = if k + j ≤ l.length then (k + j, nmB l k j, 0) else if k ≤ l.length then (k, 0, 10) else numQ l k 0 (j : Int) := by
  by_cases hk : k + j ≤ l.length
  · rw [if_pos hk, numQ_yes h1 h8 hk]
    rfl
  · rw [if_neg hk]
    by_cases hk2 : k ≤ l.length
    · rw [if_pos hk2]
      have hf : fitE 0 (decide (1 ≤ (j : Int)) && decide ((j : Int) ≤ 8)) l.length k (j : Int) = 10 := by
        unfold fitE
        have e1 : decide (1 ≤ (j : Int)) = true := decide_eq_true (by omega)
        have e2 : decide ((j : Int) ≤ 8) = true := decide_eq_true (by omega)
        rw [e1, e2, if_neg (by simp), if_neg (by simp), if_pos (by omega)]
      rw [numQ_no hk2 (by rw [hf]; decide), hf]
    · rw [if_neg hk2]
theorem nmB_le (D : List UInt8) (k j : Nat) : nmB D k j < 256 ^ j := by
  have h1 := numS_lt ((D.drop k).take j)
  have h2 : 256 ^ ((D.drop k).take j).length ≤ 256 ^ j := Nat.pow_le_pow_right (by decide) (by rw [List.length_take]; omega)
  unfold nmB
  omega
/-- one number of the document's own Reader: what it is, where it leaves the Reader. -/
theorem numQ_out {l : List UInt8} {k : Nat} {er : Int} {j : Nat} (h1 : 1 ≤ j) (h8 : j ≤ 8) (hk : k ≤ l.length) : ∃ k' n' er', numQ l k er (j : Int) = (k', n', er') ∧ k' ≤ l.length ∧ n' < 256 ^ j ∧ (er = 0 → k + j ≤ l.length → k' = k + j ∧ n' = nmB l k j ∧ er' = 0) ∧ (er ≠ 0 ∨ l.length < k + j → er' ≠ 0) := by
  by_cases he : er = 0
  · subst he
    by_cases hkj : k + j ≤ l.length
    · exact ⟨k + j, nmB l k j, 0, by rw [numQ_got _ _ _ h1 h8, if_pos hkj], hkj, nmB_le _ _ _, fun _ _ => ⟨rfl, rfl, rfl⟩, fun h => by omega⟩
    · exact ⟨k, 0, 10, by rw [numQ_got _ _ _ h1 h8, if_neg hkj, if_pos hk], hk, Nat.pow_pos (by decide), fun _ h => absurd h hkj, fun _ => by decide⟩
  · exact ⟨k, 0, er, numQ_err he, hk, Nat.pow_pos (by decide), fun h => absurd h he, fun _ => he⟩
theorem RrS.behind {g z B c k : Nat} {A : Option Addr} {l : List UInt8} {er : Int} {w w' : World} (h : RrS g B A l c w k er) (hg : w.grownBy w' (some z)) (hz : g < z) : RrS g B A l c w' k er :=
  ⟨h.rr.grown hg (by simp; omega), fun hl => by
    obtain ⟨b, off, e, hb, hc⟩ := h.by' hl
    exact ⟨b, off, e, hb, fun i hi => hg.cell (hc i hi) (by simp; omega)⟩, h.le, h.far⟩
/-- the document's own Reader at work: its Reader at g, the packet, the answer, the segment at z. -/
structure RwS (w : World) (B g : Nat) (A : Option Addr) (D : List UInt8) (c : Nat) (X Z : Array Value) (z : Nat) (Y : Array Value) (W : World) (k : Nat) (er : Int) : Prop where
  rr : RrS g B A D c W k er
  xr : W.heap[w.heap.size]? = some (.cells X 58 (0, 0))
  zr : W.heap[w.heap.size + 1]? = some (.cells Z 61 (0, 0))
  yr : W.heap[z]? = some (.cells Y 61 (0, 0))
  bl : Below w.heap.size w W
  gz : g < z
  gw : w.heap.size + 1 < g
theorem RwS.start {w W w3 : World} {g : Nat} {A : Option Addr} {D : List UInt8} {c : Nat} {X Z : Array Value} (h : RrS g W.heap.size A D c w3 0 0) (b : Below W.heap.size W w3) (r1 : W.heap[w.heap.size]? = some (.cells X 58 (0, 0))) (r2 : W.heap[w.heap.size + 1]? = some (.cells Z 61 (0, 0))) (hb : Below w.heap.size w W) (hz : W.heap.size = w.heap.size + 2) (hg : W.heap.size ≤ g) (Y : Array Value) :
    RwS w W.heap.size g A D c X Z w3.heap.size Y (w3.alloc (.cells Y 61)) 0 0 := by
  have b3 : Below w3.heap.size w3 (w3.alloc (.cells Y 61)) := (Below.refl _ _).alloc (Nat.le_refl _) _
  have hs := b.size
  have b4 := b.trans (b3.mono hs)
  exact ⟨h.below b3, (b4.block _ (by omega)).trans r1, (b4.block _ (by omega)).trans r2, heap_alloc_new _ _, hb.trans (b4.mono hb.size), h.rr.lt, by omega⟩
theorem RwS.row {w W W' : World} {B g : Nat} {A : Option Addr} {D : List UInt8} {c : Nat} {X Z Y : Array Value} {z k k' : Nat} {er er' : Int} (h : RwS w B g A D c X Z z Y W k er) (h' : RrS g B A D c W' k' er') (hg : W.grownBy W' (some g)) : RwS w B g A D c X Z z Y W' k' er' := by
  have h1 := h.gz
  have h2 := h.gw
  have l1 := (Array.getElem?_eq_some_iff.1 h.yr).1
  exact ⟨h', (hg.block _ (by omega) (by simp; omega)).trans h.xr, (hg.block _ (by omega) (by simp; omega)).trans h.zr, (hg.block _ l1 (by simp; omega)).trans h.yr, h.bl.grown hg h.bl.size (fun i e => by cases e; omega), h1, h2⟩
theorem RwS.put {w W : World} {B g : Nat} {A : Option Addr} {D : List UInt8} {c : Nat} {X Z Y : Array Value} {z k : Nat} {er : Int} (h : RwS w B g A D c X Z z Y W k er) (Y' : Array Value) : RwS w B g A D c X Z z Y' (W.setRow z Y') k er := by
  have h1 := h.gz
  have h2 := h.gw
  have l1 := (Array.getElem?_eq_some_iff.1 h.yr).1
  have hg := setRow_grown W z Y'
  exact ⟨h.rr.behind hg h1, (hg.block _ (by omega) (by simp; omega)).trans h.xr, (hg.block _ (by omega) (by simp; omega)).trans h.zr, setRow_heap W z _ _ _ _ h.yr, h.bl.grown hg h.bl.size (fun i e => by cases e; omega), h1, h2⟩
theorem RwS.num {w W : World} {B g : Nat} {A : Option Addr} {D : List UInt8} {c : Nat} {X Z Y : Array Value} {z k k' n' : Nat} {er er' : Int} (h : RwS w B g A D c X Z z Y W k er) (m : Int) (hq : numQ D k er m = (k', n', er')) (hl : D.length ≤ c) (hn : D.length ≤ 140737488355328) :
    Calls Try.prog 35 #[.pointer (some ⟨g, 0, none⟩), .int .i64 m] W fun e w' => e = .returned (.int .u64 (n' : Int)) ∧ RwS w B g A D c X Z z Y w' k' er' := by
  have H := numV W m h.rr hl hn
  rw [hq] at H
  exact H.mono fun e w' ⟨h1, h2, h3⟩ => ⟨h1, h.row h2 h3⟩
/-- the segment at z is `s`. -/
def RwG (w : World) (B g : Nat) (A : Option Addr) (D : List UInt8) (c : Nat) (X Z : Array Value) (z : Nat) (s : Sg) (W : World) (k : Nat) (er : Int) : Prop := RwS w B g A D c X Z z (sgL s).toArray W k er
theorem RwG.set {w W : World} {B g : Nat} {A : Option Addr} {D : List UInt8} {c : Nat} {X Z : Array Value} {z k : Nat} {er : Int} {s s' : Sg} (h : RwG w B g A D c X Z z s W k er) (i : Nat) (v : Value) (he : (sgL s).toArray.setIfInBounds i v = (sgL s').toArray) : RwG w B g A D c X Z z s' (W.setCell ⟨z, i, none⟩ v) k er := by
  have h1 := h.gz
  have h2 := h.gw
  have l1 := (Array.getElem?_eq_some_iff.1 h.yr).1
  have hg := grown_set W z i v
  have hy := heap_setCell_same W z i _ _ v h.yr
  rw [he] at hy
  exact ⟨h.rr.behind hg h1, (hg.block _ (by omega) (by simp; omega)).trans h.xr, (hg.block _ (by omega) (by simp; omega)).trans h.zr, hy, h.bl.grown hg h.bl.size (fun i e => by cases e; omega), h1, h2⟩
theorem RwG.num {w W : World} {B g : Nat} {A : Option Addr} {D : List UInt8} {c : Nat} {X Z : Array Value} {z k k' n' : Nat} {s : Sg} {er er' : Int} (h : RwG w B g A D c X Z z s W k er) (m : Int) (hq : numQ D k er m = (k', n', er')) (hl : D.length ≤ c) (hn : D.length ≤ 140737488355328) :
    Calls Try.prog 35 #[.pointer (some ⟨g, 0, none⟩), .int .i64 m] W fun e w' => e = .returned (.int .u64 (n' : Int)) ∧ RwG w B g A D c X Z z s w' k' er' := RwS.num h m hq hl hn
theorem RwG.cells {w W : World} {B g : Nat} {A : Option Addr} {D : List UInt8} {c : Nat} {X Z : Array Value} {z k : Nat} {s : Sg} {er : Int} (h : RwG w B g A D c X Z z s W k er) (ho : 0 < s.co + 1) : (∀ i, W.cell? ⟨z, i, none⟩ = (sgL s).toArray[i]?) ∧ ∀ i, W.frozen? ⟨z, i, none⟩ = false :=
  ⟨fun i => cell_of_row W z i _ _ (0, 0) h.yr, fun i => frozen_of_row W z i _ _ h.yr⟩
/-- bytes that were taken, their block behind z. -/
def Tk (z : Nat) (W : World) (A : Option Addr) (c : Nat) (L : List UInt8) : Prop := Byt W W.heap.size A L ∧ L.length ≤ c ∧ (A = none → c = 0) ∧ ∀ a, A = some a → z < a.block
theorem Tk.grown {z i : Nat} {W W' : World} {A : Option Addr} {c : Nat} {L : List UInt8} (h : Tk z W A c L) (hg : W.grownBy W' (some i)) (hi : i ≤ z) : Tk z W' A c L :=
  ⟨(h.1.other (Nat.le_refl _) hg (fun a e => by have := h.2.2.2 a e; omega)).more hg.size, h.2⟩
theorem Tk.below {z : Nat} {W W' : World} {A : Option Addr} {c : Nat} {L : List UInt8} (h : Tk z W A c L) (hb : Below W.heap.size W W') : Tk z W' A c L :=
  ⟨(h.1.below hb).more hb.size, h.2⟩
theorem Tk.gave {z : Nat} {w W : World} {A : Option Addr} {c : Nat} {L : List UInt8} (h : Tk z W A c L) (hz : w.heap.size ≤ z) : Gave w W A c L :=
  ⟨h.1, h.2.1, h.2.2.1, fun a e => by have := h.2.2.2 a e; omega⟩
theorem takeQ_got {l : List UInt8} {k j : Nat} (hj : k + j ≤ l.length) : takeQ l k 0 (j : Int) = (k + j, (l.drop k).take j, 0) := by
  have hf : fitE 0 (decide (0 ≤ (j : Int))) l.length k (j : Int) = 0 := by
    unfold fitE
    have e1 : decide (0 ≤ (j : Int)) = true := decide_eq_true (by omega)
    rw [e1, if_neg (by simp), if_neg (by simp), if_neg (by omega)]
  unfold takeQ
  rw [if_pos hf, Int.toNat_natCast]
theorem RwG.take {w W : World} {B g : Nat} {A : Option Addr} {D : List UInt8} {c : Nat} {X Z : Array Value} {z k j : Nat} {s : Sg} (h : RwG w B g A D c X Z z s W k 0) (hj : k + j ≤ D.length) (hl : D.length ≤ c) (hn : D.length ≤ 140737488355328) (hnil : A = none → c = 0) :
    Calls Try.prog 36 #[.pointer (some ⟨g, 0, none⟩), .int .i64 (j : Int)] W fun e w' => ∃ A2 c2, e = .returned (.slice A2 j c2) ∧ RwG w B g A D c X Z z s w' (k + j) 0 ∧ Tk z w' A2 c2 ((D.drop k).take j) ∧ W.grownBy w' (some g) := by
  have H := takeV W (j : Int) h.rr hl hn hnil
  rw [takeQ_got hj] at H
  have hlen : ((D.drop k).take j).length = j := by rw [List.length_take, List.length_drop]; omega
  have l1 := (Array.getElem?_eq_some_iff.1 h.yr).1
  refine H.mono ?_
  rintro e w' ⟨⟨v, rfl, ho⟩, h2, h3⟩
  obtain ⟨A2, c2, rfl, hc, hb, hn, ha⟩ := ho.shape
  rw [hlen] at hc ⊢
  exact ⟨A2, c2, rfl, RwS.row h h2 h3, ⟨hb, by rw [hlen]; exact hc, hn, fun a e => by have := (ha a e).1; omega⟩, h3⟩
theorem RwG.below {w W W' : World} {B g : Nat} {A : Option Addr} {D : List UInt8} {c : Nat} {X Z : Array Value} {z k : Nat} {er : Int} {s : Sg} (h : RwG w B g A D c X Z z s W k er) (hb : Below W.heap.size W W') : RwG w B g A D c X Z z s W' k er :=
  ⟨h.rr.below hb, (hb.block _ (Array.getElem?_eq_some_iff.1 h.xr).1).trans h.xr, (hb.block _ (Array.getElem?_eq_some_iff.1 h.zr).1).trans h.zr, (hb.block _ (Array.getElem?_eq_some_iff.1 h.yr).1).trans h.yr, h.bl.trans (hb.mono h.bl.size), h.gz, h.gw⟩
/-- what the document's own answers when all is well: a datagram. -/
theorem parS_refU {w W : World} {B g : Nat} {A A2 : Option Addr} {h : Ip} {D : List UInt8} {c c2 : Nat} {X Z : Array Value} {z k : Nat} {er : Int} {s : Sg} (I : RwG w B g A D c X Z z s W k er) (hE : segE h D = 0) (hp : h.p = 17) (hs : s = gotS h D none 0 A2 c2) (hq : s.q < 4294967296) (hk : s.k < 4294967296) (T : Tk z W A2 c2 (D.drop 8)) :
    ParS w h D (.returned (.tuple #[.agg (sgL s).toArray, .int .i64 0])) (W.setRow (w.heap.size + 1) (sgL s).toArray) := by
  have hz := I.gz
  have hw := I.gw
  have T2 := T.grown (setRow_grown W (w.heap.size + 1) (sgL s).toArray) (by omega)
  refine ⟨_, by rw [hE], below_setRow I.bl (by omega) _, fun h0 => absurd hE h0, fun _ => ⟨none, 0, A2, c2, by rw [← hs]; exact ⟨rfl, hq, hk⟩, ?_, ?_⟩⟩
  · unfold optS
    rw [hp]
    exact ⟨Byt.nil _ _ _, Nat.le_refl _, fun _ => rfl, fun x e => by cases e⟩
  · unfold datS hdS
    rw [hp]
    exact T2.gave (by omega)
theorem sg_set1 (s : Sg) (a : Int) : (sgL s).toArray.setIfInBounds 1 (.int .i64 a) = (sgL { s with a := a }).toArray := by
  rw [List.setIfInBounds_toArray]; rfl
theorem sg_set2 (s : Sg) (a : Int) : (sgL s).toArray.setIfInBounds 2 (.int .i64 a) = (sgL { s with b := a }).toArray := by
  rw [List.setIfInBounds_toArray]; rfl
theorem sg_set8 (s : Sg) (a : Bool) : (sgL s).toArray.setIfInBounds 8 (.bool a) = (sgL { s with ns := a }).toArray := by
  rw [List.setIfInBounds_toArray]; rfl
theorem built_pR (p : Int) : Try.prog.built 61 [(0, .int .i64 p)] = some (sgL { nSg with p := p }).toArray := by kernel_rfl
set_option maxHeartbeats 8000000 in
theorem refudp_any (w : World) (X : Array Value) (h : Ip) (x : IpV X h) (D : List UInt8) (hp : h.p = 17) (hD : Byt w w.heap.size h.ad D) (hDl : D.length = h.nd) (hdc : h.nd ≤ h.cd) (hm : h.nd ≤ 140737488351232) (hnil : h.ad = none → h.cd = 0) :
    Calls Try.prog 33 #[.agg X] w fun e w' => ParS w h D e w' := by
  have hxs := x.size
  have hxr := x.x0
  obtain ⟨W, hW⟩ : ∃ W, (w.alloc (.cells X 58)).alloc (.cells (sgL nSg).toArray 61) = W := ⟨_, rfl⟩
  obtain ⟨r1, r2, hz, hbW⟩ := two_packs w X _ _ _ W hW
  obtain ⟨Z, hZ⟩ : ∃ Z, Z = (sgL nSg).toArray := ⟨_, rfl⟩
  have hbn := built_noneRS
  rw [← hZ] at r2 hbn
  have hZs : Z.size = 11 := by rw [hZ]; rfl
  have hZo : allOne Z = true := by rw [hZ]; exact nSg_ok.one
  have HZE := hide hZ
  have c42 : W.cell? ⟨w.heap.size, 42, none⟩ = some (.slice h.ad D.length h.cd) := hDl ▸ (x.cells r1).c42
  have HXC := hide (fun (W1 : World) (r : W1.heap[w.heap.size]? = some (.cells X 58 (0, 0))) => (x.cells r).c0)
  have KOF := hide (ofS W W.heap.size h.ad D h.cd (by omega) ((hD.below hbW).more hbW.size) (Nat.le_refl _) hnil)
  have KOWN := hide (fun (W1 : World) (b : Below w.heap.size w W1) (h8 : 8 ≤ D.length) => refown5_any W1 X h x (.inr hp) h.ad h.cd D ((hD.below b).more b.size) (by omega) (by omega) hnil (by rw [hp]; exact h8))
  rw [hp, show atS 17 = 6 from rfl] at KOWN
  obtain ⟨v, hv⟩ : ∃ v, v = h.v := ⟨_, rfl⟩
  rw [← hv] at HXC
  have HV := hide hv
  have HP := hide hp
  have HB := hide hbW
  have HW := hide hW
  have HZ := hide hz
  have HM : Hid (D.length ≤ 140737488351232) := hide (by omega)
  have hbu := built_pR 17
  obtain ⟨Y0, hY0⟩ : ∃ Y, Y = (sgL { nSg with p := 17 }).toArray := ⟨_, rfl⟩
  rw [← hY0] at hbu
  have hY0s : Y0.size = 11 := by rw [hY0]; rfl
  have hY0o : allOne Y0 = true := by rw [hY0]; kernel_rfl
  have HY0 := hide hY0
  obtain ⟨k1, n1, e1, q1, l1, b1, y1, z1⟩ := numQ_out (l := D) (k := 0) (er := 0) (j := 2) (by decide) (by decide) (Nat.zero_le _)
  obtain ⟨k2, n2, e2, q2, l2, b2, y2, z2⟩ := numQ_out (l := D) (k := k1) (er := e1) (j := 2) (by decide) (by decide) l1
  obtain ⟨k3, n3, e3, q3, l3, b3, y3, z3⟩ := numQ_out (l := D) (k := k2) (er := e2) (j := 2) (by decide) (by decide) l2
  obtain ⟨k4, n4, e4, q4, l4, b4, y4, z4⟩ := numQ_out (l := D) (k := k3) (er := e3) (j := 2) (by decide) (by decide) l3
  have HQ1 := hide q1
  have HQ2 := hide q2
  have HQ3 := hide q3
  have HQ4 := hide q4
  have HS : Hid (D.length < 8 → e4 ≠ 0) := hide (fun hl => by
    by_cases h2 : D.length < 2
    · exact z4 (.inl (z3 (.inl (z2 (.inl (z1 (.inr (by omega))))))))
    · obtain ⟨rfl, -, rfl⟩ := y1 rfl (by omega)
      by_cases h4 : D.length < 4
      · exact z4 (.inl (z3 (.inl (z2 (.inr (by omega))))))
      · obtain ⟨rfl, -, rfl⟩ := y2 rfl (by omega)
        by_cases h6 : D.length < 6
        · exact z4 (.inl (z3 (.inr (by omega))))
        · obtain ⟨rfl, -, rfl⟩ := y3 rfl (by omega)
          exact z4 (.inr (by omega)))
  have HG : Hid (8 ≤ D.length → k4 = 8 ∧ e4 = 0 ∧ n1 = nmB D 0 2 ∧ n2 = nmB D 2 2 ∧ n3 = nmB D 4 2 ∧ n4 = nmB D 6 2) := hide (fun hl => by
    obtain ⟨rfl, rfl, rfl⟩ := y1 rfl (by omega)
    obtain ⟨rfl, rfl, rfl⟩ := y2 rfl (by omega)
    obtain ⟨rfl, rfl, rfl⟩ := y3 rfl (by omega)
    obtain ⟨rfl, rfl, rfl⟩ := y4 rfl (by omega)
    exact ⟨rfl, rfl, rfl, rfl, rfl, rfl⟩)
  have w1 : IntKind.i64.wrap (n1 : Int) = (n1 : Int) := IntWalk.i64_in _ (by omega)
  have w2 : IntKind.i64.wrap (n2 : Int) = (n2 : Int) := IntWalk.i64_in _ (by omega)
  have w3 : IntKind.i64.wrap (n3 : Int) = (n3 : Int) := IntWalk.i64_in _ (by omega)
  have w4 : IntKind.i64.wrap (n4 : Int) = (n4 : Int) := IntWalk.i64_in _ (by omega)
  have HR := hide (And.intro r1 r2)
  clear hv hp hbW hW hz hD hDl hdc hm x r1 r2 hZ hY0 q1 q2 q3 q4 y1 y2 y3 y4 z1 z2 z3 z4 l1 l2 l3 l4 b1 b2 b3 b4 hnil
  go_enter Try.func33, Try.ntmps33
  go_upto_region 1 with (fail)
  change Code.wp _ _ _ _ ((w.alloc (.cells X 58)).alloc (.cells (sgL nSg).toArray 61))
  rw [HW.out]
  go_wp2_with fail
  refine KOF.out.mono ?_
  rintro e W3 ⟨g, A, c, rfl, hrr, hlc, hn2, hgg, hb3⟩
  have I0 := hide (RwS.start hrr hb3 HR.out.1 HR.out.2 HB.out HZ.out hgg Y0)
  have HLC := hide hlc
  have HNIL := hide hn2
  clear hrr hlc hn2 hgg hb3 c42
  dsimp only
  go_upto_region 4 with (fail)
  obtain ⟨z, hz⟩ : ∃ z, z = W3.heap.size := ⟨_, rfl⟩
  obtain ⟨W4, hW4⟩ : ∃ W4, W4 = W3.alloc (.cells Y0 61) := ⟨_, rfl⟩
  rw [← hW4, ← hz] at I0 ⊢
  clear hW4 hz
  have I0 : Hid (RwG w W.heap.size g A D c X Z z { nSg with p := 17 } W4 0 0) := hide (by unfold RwG; rw [← HY0.out]; exact I0.out)
  go_wp2_with fail
  refine (I0.out.num 2 HQ1.out HLC.out (by have := HM.out; omega)).mono ?_
  rintro e W5 ⟨rfl, i1⟩
  have I1 := hide i1
  obtain ⟨cc, ff⟩ := i1.cells (Nat.succ_pos _)
  have c1 := cc 1
  have f1 := ff 1
  clear I0 i1 cc ff
  have c1 : W5.cell? ⟨z, 1, none⟩ = some (.int .i64 0) := c1
  dsimp only
  go_upto_region 5 with (fail)
  have I1 := hide (I1.out.set 1 (.int .i64 n1) (sg_set1 _ _))
  obtain ⟨W5b, hb⟩ : ∃ W5b, W5b = W5.setCell ⟨z, 1, none⟩ (.int .i64 n1) := ⟨_, rfl⟩
  rw [← hb] at I1 ⊢
  clear hb c1 f1
  go_wp2_with fail
  refine (I1.out.num 2 HQ2.out HLC.out (by have := HM.out; omega)).mono ?_
  rintro e W6 ⟨rfl, i2⟩
  have I2 := hide i2
  obtain ⟨cc, ff⟩ := i2.cells (Nat.succ_pos _)
  have c2 := cc 2
  have f2 := ff 2
  clear I1 i2 cc ff
  have c2 : W6.cell? ⟨z, 2, none⟩ = some (.int .i64 0) := c2
  dsimp only
  go_upto_region 6 with (fail)
  have I2 := hide (I2.out.set 2 (.int .i64 n2) (sg_set2 _ _))
  obtain ⟨W6b, hb⟩ : ∃ W6b, W6b = W6.setCell ⟨z, 2, none⟩ (.int .i64 n2) := ⟨_, rfl⟩
  rw [← hb] at I2 ⊢
  clear hb c2 f2
  go_wp2_with fail
  refine (I2.out.num 2 HQ3.out HLC.out (by have := HM.out; omega)).mono ?_
  rintro e W7 ⟨rfl, i3⟩
  have I3 := hide i3
  clear I2 i3
  dsimp only
  go_wp2_with fail
  refine (I3.out.num 2 HQ4.out HLC.out (by have := HM.out; omega)).mono ?_
  rintro e W8 ⟨rfl, i4⟩
  have I4 := hide i4
  have ce := i4.rr.rr.c2
  clear I3 i4
  dsimp only
  go_upto_region 8 with (fail)
  by_cases h8 : D.length < 8
  · have hE : Hid (segE h D = 10) := hide (by unfold segE udpE; rw [HP.out, if_neg (by decide), if_pos rfl, if_pos h8])
    have he4 : (e4 != 0) = true := by simpa using HS.out h8
    have zr := I4.out.zr
    clear w1 w2 w3 w4
    go_wp2_with fail
    have hrow := setRow_heap W8 (w.heap.size + 1) Z Z _ _ I4.out.zr
    refine bodyPost_ret (results_cell_tmp (fn := Try.f33) Try.results33 _ _ (w.heap.size + 1) 61 Z (0, 0) _ rfl hrow Try.underlying61 rfl (by rw [hZs]; exact info_rseg)) rfl ?_
    exact parS_err HZE.out hE.out (by decide) (below_setRow I4.out.bl (by omega) _)
  · obtain ⟨rfl, rfl, hn1, hn2, hn3, hn4⟩ := HG.out (by omega)
    have hEE : Hid (segE h D = if D.length < n3 then 10 else if n3 < D.length then 11 else if (n4 == 0 && !v) = false ∧ n4 ≠ sumV h D 6 then 12 else 0) := hide (by unfold segE udpE; rw [HP.out, if_neg (by decide), if_pos rfl, if_neg h8, HV.out, ← hn3, ← hn4])
    have hGS : Hid (∀ ao co ad cd, gotS h D ao co ad cd = ⟨17, n1, n2, 0, 0, 0, 0, 0, n4 == 0 && !v, none, 0, 0, ad, D.length - 8, cd⟩) := hide (fun ao co ad cd => by unfold gotS; rw [HP.out, HV.out, hn1, hn2, hn4]; rfl)
    have zr := I4.out.zr
    clear HG HS hn1 hn2 hn3 hn4
    rcases Nat.lt_trichotomy D.length n3 with hlt | heq | hgt
    · have hE : Hid (segE h D = 10) := hide (by rw [hEE.out, if_pos hlt])
      have hlt' : (D.length : Int) < (n3 : Int) := by omega
      clear w1 w2 w3 w4
      go_wp2_with fail
      have hrow := setRow_heap W8 (w.heap.size + 1) Z Z _ _ I4.out.zr
      refine bodyPost_ret (results_cell_tmp (fn := Try.f33) Try.results33 _ _ (w.heap.size + 1) 61 Z (0, 0) _ rfl hrow Try.underlying61 rfl (by rw [hZs]; exact info_rseg)) rfl ?_
      exact parS_err HZE.out hE.out (by decide) (below_setRow I4.out.bl (by omega) _)
    · subst heq
      obtain ⟨q, hq⟩ : ∃ q : Nat, D.length = q + 8 := ⟨D.length - 8, by omega⟩
      have hwr : IntKind.i64.wrap ((D.length : Int) - 8) = (q : Int) := by rw [show (D.length : Int) - 8 = (q : Int) by omega]; exact IntWalk.i64_in _ (by have := HM.out; omega)
      have hEE : Hid (segE h D = if (n4 == 0 && !v) = false ∧ n4 ≠ sumV h D 6 then 12 else 0) := hide (by rw [hEE.out, if_neg (by omega), if_neg (by omega)])
      have HQ := hide hq
      have KT := hide (I4.out.take (j := q) (by omega) HLC.out (by have := HM.out; omega) HNIL.out)
      have hdr : (D.drop 8).take q = D.drop 8 := List.take_of_length_le (by rw [List.length_drop]; omega)
      rw [hdr] at KT
      clear hq hdr
      go_wp2_with fail
      refine KT.out.mono ?_
      rintro e W9 ⟨A2, c2, rfl, i5, t5, -⟩
      obtain ⟨cc, ff⟩ := i5.cells (Nat.succ_pos _)
      have c10 := cc 10
      have f10 := ff 10
      have I5 := hide i5
      have T5 := hide t5
      have c10 : W9.cell? ⟨z, 10, none⟩ = some (.slice none 0 0) := c10
      clear KT i5 t5 cc ff I4 ce zr
      dsimp only
      go_upto_region 13 with (fail)
      have I6 := hide (I5.out.set 10 (.slice A2 q c2) (sg_set10 _ _ _ _))
      have T6 := hide (T5.out.grown (grown_set W9 z 10 (.slice A2 q c2)) (Nat.le_refl _))
      obtain ⟨W9b, hb⟩ : ∃ W9b, W9b = W9.setCell ⟨z, 10, none⟩ (.slice A2 q c2) := ⟨_, rfl⟩
      rw [← hb] at I6 T6 ⊢
      clear hb c10 f10 I5 T5
      have c0 := HXC.out W9b I6.out.xr
      obtain ⟨cc, ff⟩ := I6.out.cells (Nat.succ_pos _)
      have c8 := cc 8
      have f8 := ff 8
      have c8 : W9b.cell? ⟨z, 8, none⟩ = some (.bool false) := c8
      clear cc ff
      obtain ⟨S, hS⟩ : ∃ S, S = sumV h D 6 := ⟨_, rfl⟩
      have HS0 : Hid (S ≠ 0) := hide (by rw [hS]; exact sumV_pos h D 6 HP.out)
      rw [← hS] at hEE KOWN
      clear hS
      have hcase : (n4 = 0 ∧ v = false) ∨ (n4 = 0 ∧ v = true) ∨ ¬ n4 = 0 := by
        by_cases h0 : n4 = 0
        · cases v
          · exact .inl ⟨h0, rfl⟩
          · exact .inr (.inl ⟨h0, rfl⟩)
        · exact .inr (.inr h0)
      clear w1 w2 w3 w4
      rcases hcase with ⟨hn0, rfl⟩ | hcase
      · have hnb : ((n4 : Int) == 0) = true := by rw [hn0]; rfl
        have hE : Hid (segE h D = 0) := hide (by rw [hEE.out, hn0]; rfl)
        have hbb : (n4 == 0 && !false) = true := by rw [hn0]; rfl
        rw [hbb] at hGS
        clear hEE hbb hn0
        go_upto_region 14 with (fail)
        have I7 := hide (I6.out.set 8 (.bool true) (sg_set8 _ _))
        have T7 := hide (T6.out.grown (grown_set W9b z 8 (.bool true)) (Nat.le_refl _))
        obtain ⟨WA, hb⟩ : ∃ WA, WA = W9b.setCell ⟨z, 8, none⟩ (.bool true) := ⟨_, rfl⟩
        rw [← hb] at I7 T7 ⊢
        clear hb c8 f8 I6 T6 c0
        have zr := I7.out.zr
        have c8 : WA.cell? ⟨z, 8, none⟩ = some (.bool true) := (I7.out.cells (Nat.succ_pos _)).1 8
        have HFIN := hide (parS_refU I7.out hE.out HP.out (by rw [hGS.out, show D.length - 8 = q by have := HQ.out; omega]; rfl) (Nat.succ_pos _) (Nat.succ_pos _) T7.out)
        obtain ⟨Y7, hY7⟩ : ∃ Y, Y = (sgL ⟨17, n1, n2, 0, 0, 0, 0, 0, true, none, 0, 0, A2, q, c2⟩).toArray := ⟨_, rfl⟩
        have yr : WA.heap[z]? = some (.cells Y7 61 (0, 0)) := by rw [hY7]; exact I7.out.yr
        have HFIN : Hid (ParS w h D (.returned (.tuple #[.agg Y7, .int .i64 0])) (WA.setRow (w.heap.size + 1) Y7)) := hide (by rw [hY7]; exact HFIN.out)
        have V7' : SgV Y7 ⟨17, n1, n2, 0, 0, 0, 0, 0, true, none, 0, 0, A2, q, c2⟩ := ⟨hY7, Nat.succ_pos _, Nat.succ_pos _⟩
        have Y7s : Y7.size = 11 := V7'.size
        have Y7o : allOne Y7 = true := V7'.one
        have Y70 : Y7.extract 0 11 = Y7 := V7'.x0
        clear hY7 V7'
        go_wp2_with fail
        have hrow := setRow_heap WA (w.heap.size + 1) Z Y7 _ _ zr
        refine bodyPost_ret (results_cell_tmp (fn := Try.f33) Try.results33 _ _ (w.heap.size + 1) 61 Y7 (0, 0) _ rfl hrow Try.underlying61 rfl (by rw [Y7s]; exact info_rseg)) rfl ?_
        exact HFIN.out
      · have hbb : (n4 == 0 && !v) = false := by
          rcases hcase with ⟨rfl, rfl⟩ | h0
          · rfl
          · rw [show (n4 == 0) = false by simpa using h0]; rfl
        have hEF : Hid (segE h D = if n4 ≠ S then 12 else 0) := hide (by rw [hEE.out, hbb]; by_cases e : n4 = S; rw [if_neg (by simp [e]), if_neg (by simp [e])]; rw [if_pos ⟨rfl, e⟩, if_pos e])
        have hOR : Hid (n4 = 0 → n4 ≠ S) := hide (fun e e2 => HS0.out (e2.symm.trans e))
        rw [hbb] at hGS
        clear hbb hEE
        have hcase : (((n4 : Int) == 0) = true ∧ v = true) ∨ ((n4 : Int) == 0) = false := by
          rcases hcase with ⟨rfl, rfl⟩ | h0
          · exact .inl ⟨rfl, rfl⟩
          · exact .inr (by simpa using h0)
        rcases hcase with ⟨hnb, rfl⟩ | hnb
        all_goals (
          go_upto_region 14 with (fail)
          have I7 := hide (I6.out.set 8 (.bool false) (sg_set8 _ _))
          have T7 := hide (T6.out.grown (grown_set W9b z 8 (.bool false)) (Nat.le_refl _))
          obtain ⟨WA, hb⟩ : ∃ WA, WA = W9b.setCell ⟨z, 8, none⟩ (.bool false) := ⟨_, rfl⟩
          rw [← hb] at I7 T7 ⊢
          clear hb c8 f8 I6 T6 c0
          have xr := I7.out.xr
          have c8 : WA.cell? ⟨z, 8, none⟩ = some (.bool false) := (I7.out.cells (Nat.succ_pos _)).1 8
          have KO := hide (KOWN.out WA I7.out.bl (by have := HQ.out; omega))
          go_wp2_with fail
          refine KO.out.mono ?_
          rintro e WB ⟨rfl, hB⟩
          have I8 := hide (RwG.below I7.out hB)
          have T8 := hide (T7.out.below hB)
          clear hB I7 T7 xr c8 KO
          have zr := I8.out.zr
          have c8 : WB.cell? ⟨z, 8, none⟩ = some (.bool false) := (I8.out.cells (Nat.succ_pos _)).1 8
          dsimp only
          by_cases hnS : n4 = S
          · have hE : Hid (segE h D = 0) := hide (by rw [hEF.out, if_neg (by simpa using hnS)])
            have hSE : ((n4 : Int) != (S : Int)) = false := by rw [hnS]; simp
            have HFIN := hide (parS_refU I8.out hE.out HP.out (by rw [hGS.out, show D.length - 8 = q by have := HQ.out; omega]; rfl) (Nat.succ_pos _) (Nat.succ_pos _) T8.out)
            obtain ⟨Y7, hY7⟩ : ∃ Y, Y = (sgL ⟨17, n1, n2, 0, 0, 0, 0, 0, false, none, 0, 0, A2, q, c2⟩).toArray := ⟨_, rfl⟩
            have yr : WB.heap[z]? = some (.cells Y7 61 (0, 0)) := by rw [hY7]; exact I8.out.yr
            have HFIN : Hid (ParS w h D (.returned (.tuple #[.agg Y7, .int .i64 0])) (WB.setRow (w.heap.size + 1) Y7)) := hide (by rw [hY7]; exact HFIN.out)
            have V7' : SgV Y7 ⟨17, n1, n2, 0, 0, 0, 0, 0, false, none, 0, 0, A2, q, c2⟩ := ⟨hY7, Nat.succ_pos _, Nat.succ_pos _⟩
            have Y7s : Y7.size = 11 := V7'.size
            have Y7o : allOne Y7 = true := V7'.one
            have Y70 : Y7.extract 0 11 = Y7 := V7'.x0
            clear hY7 V7' hnS hEF hOR
            go_wp2_with fail
            have hrow := setRow_heap WB (w.heap.size + 1) Z Y7 _ _ zr
            refine bodyPost_ret (results_cell_tmp (fn := Try.f33) Try.results33 _ _ (w.heap.size + 1) 61 Y7 (0, 0) _ rfl hrow Try.underlying61 rfl (by rw [Y7s]; exact info_rseg)) rfl ?_
            exact HFIN.out
          · have hE : Hid (segE h D = 12) := hide (by rw [hEF.out, if_pos hnS])
            have hSE : ((n4 : Int) != (S : Int)) = true := by simpa using (by omega : ¬ (n4 : Int) = (S : Int))
            clear hEF hOR hnS
            go_wp2_with fail
            have hrow := setRow_heap WB (w.heap.size + 1) Z Z _ _ zr
            refine bodyPost_ret (results_cell_tmp (fn := Try.f33) Try.results33 _ _ (w.heap.size + 1) 61 Z (0, 0) _ rfl hrow Try.underlying61 rfl (by rw [hZs]; exact info_rseg)) rfl ?_
            exact parS_err HZE.out hE.out (by decide) (below_setRow I8.out.bl (by omega) _))
    · have hE : Hid (segE h D = 11) := hide (by rw [hEE.out, if_neg (by omega), if_pos hgt])
      have hgt' : (n3 : Int) < (D.length : Int) := by omega
      have hgt2 : ¬ (D.length : Int) < (n3 : Int) := by omega
      clear w1 w2 w3 w4
      go_wp2_with fail
      have hrow := setRow_heap W8 (w.heap.size + 1) Z Z _ _ I4.out.zr
      refine bodyPost_ret (results_cell_tmp (fn := Try.f33) Try.results33 _ _ (w.heap.size + 1) 61 Z (0, 0) _ rfl hrow Try.underlying61 rfl (by rw [hZs]; exact info_rseg)) rfl ?_
      exact parS_err HZE.out hE.out (by decide) (below_setRow I4.out.bl (by omega) _)
end Go.Proofs.Ytdlilokmfekndaa

end
section
/-
  The walk of the document's own Parse: of a segment of TCP; of any.
-/
namespace Go.Proofs.Ytdlilokmfekndaa
open Go.RowKit
attribute [local go_sem ↓] exec_span exec_put exec_build heap_alloc_new heap_old heap_alloc_drew
attribute [local go_sem] spanQ_ptr spanC_some heap_of_drew heap_of_drewN rs_arr rs_ad rs_ip rs_rip rs_seg rs_rseg putAt_ptr putOk_ptr oldOk_some World.setRow_alloc_new setRow_drew
set_option maxRecDepth 100000
set_option linter.unusedVariables false
set_option linter.unusedSimpArgs false

theorem sg_set3 (s : Sg) (a : Nat) : (sgL s).toArray.setIfInBounds 3 (.int .u32 (a : Int)) = (sgL { s with q := a }).toArray := by
  rw [List.setIfInBounds_toArray]; rfl
theorem sg_set4 (s : Sg) (a : Nat) : (sgL s).toArray.setIfInBounds 4 (.int .u32 (a : Int)) = (sgL { s with k := a }).toArray := by
  rw [List.setIfInBounds_toArray]; rfl
theorem sg_set5 (s : Sg) (a : Int) : (sgL s).toArray.setIfInBounds 5 (.int .i64 a) = (sgL { s with f := a }).toArray := by
  rw [List.setIfInBounds_toArray]; rfl
theorem sg_set6 (s : Sg) (a : Int) : (sgL s).toArray.setIfInBounds 6 (.int .i64 a) = (sgL { s with wn := a }).toArray := by
  rw [List.setIfInBounds_toArray]; rfl
theorem sg_set7 (s : Sg) (a : Int) : (sgL s).toArray.setIfInBounds 7 (.int .i64 a) = (sgL { s with u := a }).toArray := by
  rw [List.setIfInBounds_toArray]; rfl
theorem nmB_at {D : List UInt8} {k : Nat} (hk : k < D.length) : nmB D k 1 = (D[k]).toNat := by
  unfold nmB
  rw [List.drop_eq_getElem_cons hk]
  show numS [D[k]] = _
  simp [numS]
/-- what the document's own answers when all is well: a segment of TCP. -/
theorem parS_refT {w W : World} {B g : Nat} {A A1 A2 : Option Addr} {h : Ip} {D : List UInt8} {c c1 c2 : Nat} {X Z : Array Value} {z k : Nat} {er : Int} {s : Sg} (I : RwG w B g A D c X Z z s W k er) (hE : segE h D = 0) (hp : h.p = 6) (hs : s = gotS h D A1 c1 A2 c2) (hq : s.q < 4294967296) (hk : s.k < 4294967296) (T1 : Tk z W A1 c1 ((D.drop 20).take (hdT D - 20))) (T : Tk z W A2 c2 (D.drop (hdT D))) :
    ParS w h D (.returned (.tuple #[.agg (sgL s).toArray, .int .i64 0])) (W.setRow (w.heap.size + 1) (sgL s).toArray) := by
  have hz := I.gz
  have hw := I.gw
  have T1 := T1.grown (setRow_grown W (w.heap.size + 1) (sgL s).toArray) (by omega)
  have T2 := T.grown (setRow_grown W (w.heap.size + 1) (sgL s).toArray) (by omega)
  refine ⟨_, by rw [hE], below_setRow I.bl (by omega) _, fun h0 => absurd hE h0, fun _ => ⟨A1, c1, A2, c2, by rw [← hs]; exact ⟨rfl, hq, hk⟩, ?_, ?_⟩⟩
  · unfold optS
    rw [if_pos hp]
    exact T1.gave (by omega)
  · unfold datS hdS
    rw [if_pos hp]
    exact T2.gave (by omega)
set_option maxHeartbeats 8000000 in
theorem reftcp_any (w : World) (X : Array Value) (h : Ip) (x : IpV X h) (D : List UInt8) (hp : h.p = 6) (hD : Byt w w.heap.size h.ad D) (hDl : D.length = h.nd) (hdc : h.nd ≤ h.cd) (hm : h.nd ≤ 140737488351232) (hnil : h.ad = none → h.cd = 0) :
    Calls Try.prog 32 #[.agg X] w fun e w' => ParS w h D e w' := by
  have hxs := x.size
  have hxr := x.x0
  obtain ⟨W, hW⟩ : ∃ W, (w.alloc (.cells X 58)).alloc (.cells (sgL nSg).toArray 61) = W := ⟨_, rfl⟩
  obtain ⟨r1, r2, hz, hbW⟩ := two_packs w X _ _ _ W hW
  obtain ⟨Z, hZ⟩ : ∃ Z, Z = (sgL nSg).toArray := ⟨_, rfl⟩
  have hbn := built_noneRS
  rw [← hZ] at r2 hbn
  have hZs : Z.size = 11 := by rw [hZ]; rfl
  have hZo : allOne Z = true := by rw [hZ]; exact nSg_ok.one
  have HZE := hide hZ
  have c42 : W.cell? ⟨w.heap.size, 42, none⟩ = some (.slice h.ad D.length h.cd) := hDl ▸ (x.cells r1).c42
  have KOF := hide (ofS W W.heap.size h.ad D h.cd (by omega) ((hD.below hbW).more hbW.size) (Nat.le_refl _) hnil)
  have KOWN := hide (fun (W1 : World) (b : Below w.heap.size w W1) (h8 : 18 ≤ D.length) => refown5_any W1 X h x (.inl hp) h.ad h.cd D ((hD.below b).more b.size) (by omega) (by omega) hnil (by rw [hp]; exact h8))
  rw [hp, show atS 6 = 16 from rfl] at KOWN
  have HP := hide hp
  have HB := hide hbW
  have HW := hide hW
  have HZ := hide hz
  have HM : Hid (D.length ≤ 140737488351232) := hide (by omega)
  have hbu := built_pR 6
  obtain ⟨Y0, hY0⟩ : ∃ Y, Y = (sgL { nSg with p := 6 }).toArray := ⟨_, rfl⟩
  rw [← hY0] at hbu
  have hY0s : Y0.size = 11 := by rw [hY0]; rfl
  have hY0o : allOne Y0 = true := by rw [hY0]; kernel_rfl
  have HY0 := hide hY0
  have HR := hide (And.intro r1 r2)
  have HD : Hid (0 < D.length → ∃ b off, h.ad = some ⟨b, off, none⟩ ∧ ∀ i (hi : i < D.length), W.cell? ⟨b, off + i, none⟩ = some (.int .u8 (D[i].toNat : Int))) := hide (fun h0 => by
    obtain ⟨b, off, e, -, hc⟩ := (hD.below hbW) h0
    exact ⟨b, off, e, hc⟩)
  by_cases h20 : D.length < 20
  · have hE : Hid (segE h D = 10) := hide (by unfold segE tcpE; rw [HP.out, if_pos rfl, if_pos h20])
    have zr := r2
    have hlt : (D.length : Int) < 20 := by omega
    clear hp hbW hW hz hD hDl hdc hm x r1 r2 hZ hY0 hnil KOF KOWN
    go_enter Try.func32, Try.ntmps32
    go_upto_region 1 with (fail)
    change Code.wp _ _ _ _ ((w.alloc (.cells X 58)).alloc (.cells (sgL nSg).toArray 61))
    rw [HW.out]
    go_wp2_with fail
    have hrow := setRow_heap W (w.heap.size + 1) Z Z _ _ zr
    refine bodyPost_ret (results_cell_tmp (fn := Try.f32) Try.results32 _ _ (w.heap.size + 1) 61 Z (0, 0) _ rfl hrow Try.underlying61 rfl (by rw [hZs]; exact info_rseg)) rfl ?_
    exact parS_err HZE.out hE.out (by decide) (below_setRow HB.out (by omega) _)
  · obtain ⟨b, off, hA, hcell⟩ := HD.out (by omega)
    have c12 := hcell 12 (by omega)
    rw [← nmB_at] at c12
    obtain ⟨A0, hA0⟩ : ∃ A0, A0 = h.ad := ⟨_, rfl⟩
    rw [← hA0] at c42 KOF KOWN hnil
    rw [hA0, hA] at c42 KOF KOWN
    have hEE : Hid (segE h D = if hdT D < 20 ∨ nmB D 12 1 % 16 ≠ 0 then 11 else if D.length < hdT D then 10 else if nmB D 16 2 ≠ sumV h D 16 then 12 else 0) := hide (by unfold segE tcpE; rw [HP.out, if_pos rfl, if_neg h20])
    have hGS : Hid (∀ ao co ad cd, gotS h D ao co ad cd = tcpS D ao co ad cd) := hide (fun ao co ad cd => by unfold gotS; rw [if_pos HP.out])
    have HQ : Hid (∀ k j : Nat, 1 ≤ j → j ≤ 8 → k + j ≤ 20 → numQ D k 0 (j : Int) = (k + j, nmB D k j, 0)) := hide (fun k j h1 h8 hk => (numQ_got D k j h1 h8).trans (if_pos (by omega)))
    have l12 := nmB_le D 12 1
    obtain ⟨n12, hn12⟩ : ∃ n, n = nmB D 12 1 := ⟨_, rfl⟩
    obtain ⟨q, hq⟩ : ∃ q, q = n12 / 16 := ⟨_, rfl⟩
    obtain ⟨y, hy⟩ : ∃ y, y = n12 % 16 := ⟨_, rfl⟩
    have hHD : Hid (hdT D = 4 * q) := hide (by rw [hq, hn12]; rfl)
    rw [← hn12] at c12 hEE l12
    rw [hHD.out, ← hy] at hEE
    have hdv : (n12 : Int) / 16 = (q : Int) := by omega
    have hmd : (n12 : Int) % 16 = (y : Int) := by omega
    have w1 : IntKind.u8.wrap (q : Int) = (q : Int) := IntWalk.u8_in _ (by omega)
    have w2 : IntKind.u8.wrap (y : Int) = (y : Int) := IntWalk.u8_in _ (by omega)
    have w3 : IntKind.i64.wrap (q : Int) = (q : Int) := IntWalk.i64_in _ (by omega)
    obtain ⟨hd, hhd⟩ : ∃ hd, hd = 4 * q := ⟨_, rfl⟩
    have w4 : IntKind.i64.wrap (4 * (q : Int)) = (hd : Int) := by rw [show 4 * (q : Int) = (hd : Int) by omega]; exact IntWalk.i64_in _ (by omega)
    rw [← hhd] at hEE hHD
    have hlt : ¬ (D.length : Int) < 20 := by omega
    have hlt12 : (12 : Int) < (D.length : Int) := by omega
    have zr := r2
    have HQ15 : Hid (q < 16) := hide (by omega)
    have HHD4 := hide hhd
    clear hp hbW hW hz hD hDl hdc hm x r1 r2 hZ hY0 hnil hcell hA hA0 hn12 hq hy l12 HD hhd
    go_enter Try.func32, Try.ntmps32
    go_upto_region 1 with (fail)
    change Code.wp _ _ _ _ ((w.alloc (.cells X 58)).alloc (.cells (sgL nSg).toArray 61))
    rw [HW.out]
    go_upto_region 5 with (fail)
    by_cases hd20 : hd < 20
    · have hE : Hid (segE h D = 11) := hide (by rw [hEE.out, if_pos (.inl hd20)])
      have hb1 : (hd : Int) < 20 := by omega
      clear w1 w2 w3 w4
      go_wp2_with fail
      have hrow := setRow_heap W (w.heap.size + 1) Z Z _ _ zr
      refine bodyPost_ret (results_cell_tmp (fn := Try.f32) Try.results32 _ _ (w.heap.size + 1) 61 Z (0, 0) _ rfl hrow Try.underlying61 rfl (by rw [hZs]; exact info_rseg)) rfl ?_
      exact parS_err HZE.out hE.out (by decide) (below_setRow HB.out (by omega) _)
    have hb1 : ¬ (hd : Int) < 20 := by omega
    by_cases hy0 : y = 0
    rotate_left
    · have hE : Hid (segE h D = 11) := hide (by rw [hEE.out, if_pos (.inr hy0)])
      have hb2 : ((y : Int) != 0) = true := by simpa using (by omega : ¬ (y : Int) = 0)
      clear w1 w3 w4
      go_wp2_with fail
      have hrow := setRow_heap W (w.heap.size + 1) Z Z _ _ zr
      refine bodyPost_ret (results_cell_tmp (fn := Try.f32) Try.results32 _ _ (w.heap.size + 1) 61 Z (0, 0) _ rfl hrow Try.underlying61 rfl (by rw [hZs]; exact info_rseg)) rfl ?_
      exact parS_err HZE.out hE.out (by decide) (below_setRow HB.out (by omega) _)
    subst hy0
    have hEE : Hid (segE h D = if D.length < hd then 10 else if nmB D 16 2 ≠ sumV h D 16 then 12 else 0) := hide (by rw [hEE.out, if_neg (fun e => e.elim hd20 (fun e => e rfl))])
    by_cases hlh : D.length < hd
    · have hE : Hid (segE h D = 10) := hide (by rw [hEE.out, if_pos hlh])
      have hb3 : (D.length : Int) < (hd : Int) := by omega
      clear w1 w3 w4
      go_wp2_with fail
      have hrow := setRow_heap W (w.heap.size + 1) Z Z _ _ zr
      refine bodyPost_ret (results_cell_tmp (fn := Try.f32) Try.results32 _ _ (w.heap.size + 1) 61 Z (0, 0) _ rfl hrow Try.underlying61 rfl (by rw [hZs]; exact info_rseg)) rfl ?_
      exact parS_err HZE.out hE.out (by decide) (below_setRow HB.out (by omega) _)
    have hb3 : ¬ (D.length : Int) < (hd : Int) := by omega
    have hEE : Hid (segE h D = if nmB D 16 2 ≠ sumV h D 16 then 12 else 0) := hide (by rw [hEE.out, if_neg hlh])
    obtain ⟨jo, hjo⟩ : ∃ j : Nat, j = hd - 20 := ⟨_, rfl⟩
    obtain ⟨jd, hjd⟩ : ∃ j : Nat, j = D.length - hd := ⟨_, rfl⟩
    have hjo1 : (hd : Int) - 20 = (jo : Int) := by omega
    have hjd1 : (D.length : Int) - (hd : Int) = (jd : Int) := by omega
    have wo : IntKind.i64.wrap ((hd : Int) - 20) = (jo : Int) := by rw [hjo1]; exact IntWalk.i64_in _ (by have := HHD4.out; have := HQ15.out; omega)
    have wd : IntKind.i64.wrap ((D.length : Int) - (hd : Int)) = (jd : Int) := by rw [hjd1]; exact IntWalk.i64_in _ (by have := HM.out; omega)
    have HJ : Hid (hd = 20 + jo ∧ D.length = hd + jd) := hide (by omega)
    clear hjo hjd hjo1 hjd1
    go_wp2_with fail
    refine KOF.out.mono ?_
    rintro e W3 ⟨g, A, c, rfl, hrr, hlc, hn2, hgg, hb3'⟩
    have I0 := hide (RwS.start hrr hb3' HR.out.1 HR.out.2 HB.out HZ.out hgg Y0)
    have HLC := hide hlc
    have HNIL := hide hn2
    clear hrr hlc hn2 hgg hb3' c42 c12 zr hb1 hb3 w1 w2 w3 w4 hlt hlt12 hdv hmd KOF
    dsimp only
    go_upto_region 11 with (fail)
    obtain ⟨z, hz⟩ : ∃ z, z = W3.heap.size := ⟨_, rfl⟩
    obtain ⟨W4, hW4⟩ : ∃ W4, W4 = W3.alloc (.cells Y0 61) := ⟨_, rfl⟩
    rw [← hW4, ← hz] at I0 ⊢
    clear hW4 hz
    have I0 : Hid (RwG w W.heap.size g A D c X Z z { nSg with p := 6 } W4 0 0) := hide (by unfold RwG; rw [← HY0.out]; exact I0.out)
    clear hbu hY0s hY0o
    obtain ⟨n1, hn1⟩ : ∃ n, n = nmB D 0 2 := ⟨_, rfl⟩
    have b1 : n1 < 256 ^ 2 := by rw [hn1]; exact nmB_le _ _ _
    have v1 : IntKind.i64.wrap (n1 : Int) = (n1 : Int) := IntWalk.i64_in _ (by omega)
    have Q1 := hide (HQ.out 0 2 (by decide) (by decide) (by decide))
    rw [← hn1] at Q1
    have HN1 := hide hn1
    have HB1 := hide b1
    clear hn1 b1
    go_wp2_with fail
    refine (RwG.num (I0.out) 2 Q1.out HLC.out (by have := HM.out; omega)).mono ?_
    rintro e V1 ⟨rfl, i1⟩
    have I1 := hide i1
    obtain ⟨cc, ff⟩ := i1.cells (Nat.succ_pos _)
    have cf := cc 1
    have fr := ff 1
    clear I0 i1 cc ff
    have cf : V1.cell? ⟨z, 1, none⟩ = some (.int .i64 0) := cf
    dsimp only
    go_upto_region 12 with (fail)
    have I1 := hide (RwG.set I1.out 1 (.int .i64 n1) (sg_set1 _ _))
    obtain ⟨U1, hb⟩ : ∃ U, U = V1.setCell ⟨z, 1, none⟩ (.int .i64 n1) := ⟨_, rfl⟩
    rw [← hb] at I1 ⊢
    clear hb cf fr v1
    obtain ⟨n2, hn2⟩ : ∃ n, n = nmB D 2 2 := ⟨_, rfl⟩
    have b2 : n2 < 256 ^ 2 := by rw [hn2]; exact nmB_le _ _ _
    have v2 : IntKind.i64.wrap (n2 : Int) = (n2 : Int) := IntWalk.i64_in _ (by omega)
    have Q2 := hide (HQ.out 2 2 (by decide) (by decide) (by decide))
    rw [← hn2] at Q2
    have HN2 := hide hn2
    have HB2 := hide b2
    clear hn2 b2
    go_wp2_with fail
    refine (RwG.num (I1.out) 2 Q2.out HLC.out (by have := HM.out; omega)).mono ?_
    rintro e V2 ⟨rfl, i2⟩
    have I2 := hide i2
    obtain ⟨cc, ff⟩ := i2.cells (Nat.succ_pos _)
    have cf := cc 2
    have fr := ff 2
    clear I1 i2 cc ff
    have cf : V2.cell? ⟨z, 2, none⟩ = some (.int .i64 0) := cf
    dsimp only
    go_upto_region 13 with (fail)
    have I2 := hide (RwG.set I2.out 2 (.int .i64 n2) (sg_set2 _ _))
    obtain ⟨U2, hb⟩ : ∃ U, U = V2.setCell ⟨z, 2, none⟩ (.int .i64 n2) := ⟨_, rfl⟩
    rw [← hb] at I2 ⊢
    clear hb cf fr v2
    obtain ⟨n3, hn3⟩ : ∃ n, n = nmB D 4 4 := ⟨_, rfl⟩
    have b3 : n3 < 256 ^ 4 := by rw [hn3]; exact nmB_le _ _ _
    have v3 : IntKind.u32.wrap (n3 : Int) = (n3 : Int) := IntWalk.u32_in _ (by omega)
    have Q3 := hide (HQ.out 4 4 (by decide) (by decide) (by decide))
    rw [← hn3] at Q3
    have HN3 := hide hn3
    have HB3 := hide b3
    clear hn3 b3
    go_wp2_with fail
    refine (RwG.num (I2.out) 4 Q3.out HLC.out (by have := HM.out; omega)).mono ?_
    rintro e V3 ⟨rfl, i3⟩
    have I3 := hide i3
    obtain ⟨cc, ff⟩ := i3.cells (Nat.succ_pos _)
    have cf := cc 3
    have fr := ff 3
    clear I2 i3 cc ff
    have cf : V3.cell? ⟨z, 3, none⟩ = some (.int .u32 0) := cf
    dsimp only
    go_upto_region 14 with (fail)
    have I3 := hide (RwG.set I3.out 3 (.int .u32 n3) (sg_set3 _ _))
    obtain ⟨U3, hb⟩ : ∃ U, U = V3.setCell ⟨z, 3, none⟩ (.int .u32 n3) := ⟨_, rfl⟩
    rw [← hb] at I3 ⊢
    clear hb cf fr v3
    obtain ⟨n4, hn4⟩ : ∃ n, n = nmB D 8 4 := ⟨_, rfl⟩
    have b4 : n4 < 256 ^ 4 := by rw [hn4]; exact nmB_le _ _ _
    have v4 : IntKind.u32.wrap (n4 : Int) = (n4 : Int) := IntWalk.u32_in _ (by omega)
    have Q4 := hide (HQ.out 8 4 (by decide) (by decide) (by decide))
    rw [← hn4] at Q4
    have HN4 := hide hn4
    have HB4 := hide b4
    clear hn4 b4
    go_wp2_with fail
    refine (RwG.num (I3.out) 4 Q4.out HLC.out (by have := HM.out; omega)).mono ?_
    rintro e V4 ⟨rfl, i4⟩
    have I4 := hide i4
    obtain ⟨cc, ff⟩ := i4.cells (Nat.succ_pos _)
    have cf := cc 4
    have fr := ff 4
    clear I3 i4 cc ff
    have cf : V4.cell? ⟨z, 4, none⟩ = some (.int .u32 0) := cf
    dsimp only
    go_upto_region 15 with (fail)
    have I4 := hide (RwG.set I4.out 4 (.int .u32 n4) (sg_set4 _ _))
    obtain ⟨U4, hb⟩ : ∃ U, U = V4.setCell ⟨z, 4, none⟩ (.int .u32 n4) := ⟨_, rfl⟩
    rw [← hb] at I4 ⊢
    clear hb cf fr v4
    obtain ⟨n5, hn5⟩ : ∃ n, n = nmB D 12 1 := ⟨_, rfl⟩
    have b5 : n5 < 256 ^ 1 := by rw [hn5]; exact nmB_le _ _ _
    have Q5 := hide (HQ.out 12 1 (by decide) (by decide) (by decide))
    rw [← hn5] at Q5
    have HN5 := hide hn5
    have HB5 := hide b5
    clear hn5 b5
    go_wp2_with fail
    refine (RwG.num (I4.out) 1 Q5.out HLC.out (by have := HM.out; omega)).mono ?_
    rintro e V5 ⟨rfl, i5⟩
    have I5 := hide i5
    clear I4 i5
    dsimp only
    go_upto_region 16 with (fail)
    obtain ⟨n6, hn6⟩ : ∃ n, n = nmB D 13 1 := ⟨_, rfl⟩
    have b6 : n6 < 256 ^ 1 := by rw [hn6]; exact nmB_le _ _ _
    have v6 : IntKind.i64.wrap (n6 : Int) = (n6 : Int) := IntWalk.i64_in _ (by omega)
    have Q6 := hide (HQ.out 13 1 (by decide) (by decide) (by decide))
    rw [← hn6] at Q6
    have HN6 := hide hn6
    have HB6 := hide b6
    clear hn6 b6
    go_wp2_with fail
    refine (RwG.num (I5.out) 1 Q6.out HLC.out (by have := HM.out; omega)).mono ?_
    rintro e V6 ⟨rfl, i6⟩
    have I6 := hide i6
    obtain ⟨cc, ff⟩ := i6.cells (Nat.succ_pos _)
    have cf := cc 5
    have fr := ff 5
    clear I5 i6 cc ff
    have cf : V6.cell? ⟨z, 5, none⟩ = some (.int .i64 0) := cf
    dsimp only
    go_upto_region 17 with (fail)
    have I6 := hide (RwG.set I6.out 5 (.int .i64 n6) (sg_set5 _ _))
    obtain ⟨U6, hb⟩ : ∃ U, U = V6.setCell ⟨z, 5, none⟩ (.int .i64 n6) := ⟨_, rfl⟩
    rw [← hb] at I6 ⊢
    clear hb cf fr v6
    obtain ⟨n7, hn7⟩ : ∃ n, n = nmB D 14 2 := ⟨_, rfl⟩
    have b7 : n7 < 256 ^ 2 := by rw [hn7]; exact nmB_le _ _ _
    have v7 : IntKind.i64.wrap (n7 : Int) = (n7 : Int) := IntWalk.i64_in _ (by omega)
    have Q7 := hide (HQ.out 14 2 (by decide) (by decide) (by decide))
    rw [← hn7] at Q7
    have HN7 := hide hn7
    have HB7 := hide b7
    clear hn7 b7
    go_wp2_with fail
    refine (RwG.num (I6.out) 2 Q7.out HLC.out (by have := HM.out; omega)).mono ?_
    rintro e V7 ⟨rfl, i7⟩
    have I7 := hide i7
    obtain ⟨cc, ff⟩ := i7.cells (Nat.succ_pos _)
    have cf := cc 6
    have fr := ff 6
    clear I6 i7 cc ff
    have cf : V7.cell? ⟨z, 6, none⟩ = some (.int .i64 0) := cf
    dsimp only
    go_upto_region 18 with (fail)
    have I7 := hide (RwG.set I7.out 6 (.int .i64 n7) (sg_set6 _ _))
    obtain ⟨U7, hb⟩ : ∃ U, U = V7.setCell ⟨z, 6, none⟩ (.int .i64 n7) := ⟨_, rfl⟩
    rw [← hb] at I7 ⊢
    clear hb cf fr v7
    obtain ⟨n8, hn8⟩ : ∃ n, n = nmB D 16 2 := ⟨_, rfl⟩
    have b8 : n8 < 256 ^ 2 := by rw [hn8]; exact nmB_le _ _ _
    have v8 : IntKind.i64.wrap (n8 : Int) = (n8 : Int) := IntWalk.i64_in _ (by omega)
    have Q8 := hide (HQ.out 16 2 (by decide) (by decide) (by decide))
    rw [← hn8] at Q8
    have HN8 := hide hn8
    have HB8 := hide b8
    clear hn8 b8
    go_wp2_with fail
    refine (RwG.num (I7.out) 2 Q8.out HLC.out (by have := HM.out; omega)).mono ?_
    rintro e V8 ⟨rfl, i8⟩
    have I8 := hide i8
    clear I7 i8
    dsimp only
    go_upto_region 19 with (fail)
    obtain ⟨n9, hn9⟩ : ∃ n, n = nmB D 18 2 := ⟨_, rfl⟩
    have b9 : n9 < 256 ^ 2 := by rw [hn9]; exact nmB_le _ _ _
    have v9 : IntKind.i64.wrap (n9 : Int) = (n9 : Int) := IntWalk.i64_in _ (by omega)
    have Q9 := hide (HQ.out 18 2 (by decide) (by decide) (by decide))
    rw [← hn9] at Q9
    have HN9 := hide hn9
    have HB9 := hide b9
    clear hn9 b9
    go_wp2_with fail
    refine (RwG.num (I8.out) 2 Q9.out HLC.out (by have := HM.out; omega)).mono ?_
    rintro e V9 ⟨rfl, i9⟩
    have I9 := hide i9
    obtain ⟨cc, ff⟩ := i9.cells (Nat.succ_pos _)
    have cf := cc 7
    have fr := ff 7
    clear I8 i9 cc ff
    have cf : V9.cell? ⟨z, 7, none⟩ = some (.int .i64 0) := cf
    dsimp only
    go_upto_region 20 with (fail)
    have I9 := hide (RwG.set I9.out 7 (.int .i64 n9) (sg_set7 _ _))
    obtain ⟨U9, hb⟩ : ∃ U, U = V9.setCell ⟨z, 7, none⟩ (.int .i64 n9) := ⟨_, rfl⟩
    rw [← hb] at I9 ⊢
    clear hb cf fr v9
    have KT := hide (I9.out.take (j := jo) (by have := HJ.out; omega) HLC.out (by have := HM.out; omega) HNIL.out)
    go_wp2_with fail
    refine KT.out.mono ?_
    rintro e WT ⟨A1, c1, rfl, ia, ta, -⟩
    obtain ⟨cc, ff⟩ := ia.cells (Nat.succ_pos _)
    have cf := cc 9
    have fr := ff 9
    have IA := hide ia
    have TA := hide ta
    have cf : WT.cell? ⟨z, 9, none⟩ = some (.slice none 0 0) := cf
    clear KT ia ta cc ff I9
    dsimp only
    go_upto_region 21 with (fail)
    have IA := hide (IA.out.set 9 (.slice A1 jo c1) (sg_set9 _ _ _ _))
    have TA := hide (TA.out.grown (grown_set WT z 9 (.slice A1 jo c1)) (Nat.le_refl _))
    obtain ⟨WU, hb⟩ : ∃ U, U = WT.setCell ⟨z, 9, none⟩ (.slice A1 jo c1) := ⟨_, rfl⟩
    rw [← hb] at IA TA ⊢
    clear hb cf fr wo
    have KT := hide (IA.out.take (j := jd) (by have := HJ.out; omega) HLC.out (by have := HM.out; omega) HNIL.out)
    go_wp2_with fail
    refine KT.out.mono ?_
    rintro e WV ⟨A2, c2, rfl, ib, tb, gb⟩
    have TA := hide (TA.out.grown gb (by have := IA.out.gz; omega))
    obtain ⟨cc, ff⟩ := ib.cells (Nat.succ_pos _)
    have cf := cc 10
    have fr := ff 10
    have IB := hide ib
    have TB := hide tb
    have cf : WV.cell? ⟨z, 10, none⟩ = some (.slice none 0 0) := cf
    clear KT ib tb cc ff IA gb
    dsimp only
    go_upto_region 22 with (fail)
    have IB := hide (IB.out.set 10 (.slice A2 jd c2) (sg_set10 _ _ _ _))
    have TA := hide (TA.out.grown (grown_set WV z 10 (.slice A2 jd c2)) (Nat.le_refl _))
    have TB := hide (TB.out.grown (grown_set WV z 10 (.slice A2 jd c2)) (Nat.le_refl _))
    obtain ⟨WX, hb⟩ : ∃ U, U = WV.setCell ⟨z, 10, none⟩ (.slice A2 jd c2) := ⟨_, rfl⟩
    rw [← hb] at IB TA TB ⊢
    clear hb cf fr wd
    have xr := IB.out.xr
    have KO := hide (KOWN.out WX IB.out.bl (by omega))
    obtain ⟨S, hS⟩ : ∃ S, S = sumV h D 16 := ⟨_, rfl⟩
    rw [← hS, ← HN8.out] at hEE
    rw [← hS] at KO
    clear hS
    go_wp2_with fail
    refine KO.out.mono ?_
    rintro e WB ⟨rfl, hB⟩
    have IC := hide (RwG.below IB.out hB)
    have TC := hide (TA.out.below hB)
    have TD := hide (TB.out.below hB)
    clear hB IB TA TB xr KO
    have zr := IC.out.zr
    dsimp only
    by_cases hnS : n8 = S
    · have hE : Hid (segE h D = 0) := hide (by rw [hEE.out, if_neg (by simpa using hnS)])
      have hSE : ((n8 : Int) != (S : Int)) = false := by rw [hnS]; simp
      have HT1 : Hid (Tk z WB A1 c1 ((D.drop 20).take (hdT D - 20))) := hide (by rw [hHD.out, show hd - 20 = jo by have := HJ.out; omega]; exact TC.out)
      have HT2 : Hid (Tk z WB A2 c2 (D.drop (hdT D))) := hide (by
        rw [hHD.out]
        have e := TD.out
        rw [List.take_of_length_le (by rw [List.length_drop]; have := HJ.out; omega), show 20 + jo = hd from HJ.out.1.symm] at e
        exact e)
      have HFIN := hide (parS_refT IC.out hE.out HP.out (by rw [hGS.out]; unfold tcpS; rw [hHD.out, show hd - 20 = jo by have := HJ.out; omega, show D.length - hd = jd by have := HJ.out; omega, ← HN1.out, ← HN2.out, ← HN3.out, ← HN4.out, ← HN6.out, ← HN7.out, ← HN9.out]; rfl) (by have := HB3.out; show n3 < _; omega) (by have := HB4.out; show n4 < _; omega) HT1.out HT2.out)
      obtain ⟨Y7, hY7⟩ : ∃ Y, Y = (sgL ⟨6, n1, n2, n3, n4, n6, n7, n9, false, A1, jo, c1, A2, jd, c2⟩).toArray := ⟨_, rfl⟩
      have yr : WB.heap[z]? = some (.cells Y7 61 (0, 0)) := by rw [hY7]; exact IC.out.yr
      have HFIN : Hid (ParS w h D (.returned (.tuple #[.agg Y7, .int .i64 0])) (WB.setRow (w.heap.size + 1) Y7)) := hide (by rw [hY7]; exact HFIN.out)
      have V7' : SgV Y7 ⟨6, n1, n2, n3, n4, n6, n7, n9, false, A1, jo, c1, A2, jd, c2⟩ := ⟨hY7, by have := HB3.out; show n3 < _; omega, by have := HB4.out; show n4 < _; omega⟩
      have Y7s : Y7.size = 11 := V7'.size
      have Y7o : allOne Y7 = true := V7'.one
      have Y70 : Y7.extract 0 11 = Y7 := V7'.x0
      clear hY7 V7' hnS hEE
      go_wp2_with fail
      have hrow := setRow_heap WB (w.heap.size + 1) Z Y7 _ _ zr
      refine bodyPost_ret (results_cell_tmp (fn := Try.f32) Try.results32 _ _ (w.heap.size + 1) 61 Y7 (0, 0) _ rfl hrow Try.underlying61 rfl (by rw [Y7s]; exact info_rseg)) rfl ?_
      exact HFIN.out
    · have hE : Hid (segE h D = 12) := hide (by rw [hEE.out, if_pos hnS])
      have hSE : ((n8 : Int) != (S : Int)) = true := by simpa using (by omega : ¬ (n8 : Int) = (S : Int))
      clear hEE hnS
      go_wp2_with fail
      have hrow := setRow_heap WB (w.heap.size + 1) Z Z _ _ zr
      refine bodyPost_ret (results_cell_tmp (fn := Try.f32) Try.results32 _ _ (w.heap.size + 1) 61 Z (0, 0) _ rfl hrow Try.underlying61 rfl (by rw [hZs]; exact info_rseg)) rfl ?_
      exact parS_err HZE.out hE.out (by decide) (below_setRow IC.out.bl (by omega) _)
end Go.Proofs.Ytdlilokmfekndaa

end
section
/-
  The walk of the document's own Parse.
-/
namespace Go.Proofs.Ytdlilokmfekndaa
open Go.RowKit
attribute [local go_sem ↓] exec_span exec_put exec_build heap_alloc_new heap_old heap_alloc_drew
attribute [local go_sem] spanQ_ptr spanC_some heap_of_drew heap_of_drewN rs_arr rs_ad rs_ip rs_rip rs_seg rs_rseg putAt_ptr putOk_ptr oldOk_some World.setRow_alloc_new setRow_drew
set_option maxRecDepth 100000
set_option linter.unusedVariables false
set_option linter.unusedSimpArgs false

set_option maxHeartbeats 2000000 in
theorem refparseS_any (w : World) (X : Array Value) (h : Ip) (x : IpV X h) (D : List UInt8) (hD : Byt w w.heap.size h.ad D) (hDl : D.length = h.nd) (hdc : h.nd ≤ h.cd) (hm : h.nd ≤ 140737488351232) (hnil : h.ad = none → h.cd = 0) :
    Calls Try.prog 16 #[.agg X] w fun e w' => ParS w h D e w' := by
  have hxs := x.size
  have hxr := x.x0
  obtain ⟨W, hW⟩ : ∃ W, (w.alloc (.cells X 58)).alloc (.cells (sgL nSg).toArray 61) = W := ⟨_, rfl⟩
  obtain ⟨r1, r2, hz, hbW⟩ := two_packs w X _ _ _ W hW
  obtain ⟨Z, hZ⟩ : ∃ Z, Z = (sgL nSg).toArray := ⟨_, rfl⟩
  have hbn := built_noneRS
  rw [← hZ] at r2 hbn
  have hZs : Z.size = 11 := by rw [hZ]; rfl
  have hZo : allOne Z = true := by rw [hZ]; exact nSg_ok.one
  have HZE := hide hZ
  have c35 := (x.cells r1).c35
  have hDW : Byt W W.heap.size h.ad D := (hD.below hbW).more hbW.size
  have KT := hide (fun hp : h.p = 6 => reftcp_any W X h x D hp hDW hDl hdc hm hnil)
  have KU := hide (fun hp : h.p = 17 => refudp_any W X h x D hp hDW hDl hdc hm hnil)
  have HF := hide (fun (Y : Array Value) (w1 : World) => parS_row (w := w) (W := W) (w1 := w1) (h := h) (D := D) (Y := Y) (z := w.heap.size + 1) hbW (by omega) (by omega))
  have HZK := hide (fun (w1 : World) (b : Below W.heap.size W w1) => ((b.block (w.heap.size + 1) (by omega)).trans r2 : w1.heap[w.heap.size + 1]? = some (.cells Z 61 (0, 0))))
  have HB := hide hbW
  have HW := hide hW
  have HZ := hide hz
  clear hbW hW hz hZ hD hDW x hDl hdc hm hnil
  go_enter Try.func16, Try.ntmps16
  go_upto_region 1 with (fail)
  change Code.wp _ _ _ _ ((w.alloc (.cells X 58)).alloc (.cells (sgL nSg).toArray 61))
  rw [HW.out]
  obtain ⟨p, hp⟩ : ∃ p, p = h.p := ⟨_, rfl⟩
  rw [← hp] at c35
  by_cases h6 : p = 6
  · have hp6 : h.p = 6 := by rw [← hp]; exact h6
    subst h6
    have K := hide (KT.out hp6)
    clear KT KU hp hp6
    go_wp2_with fail
    refine K.out.mono ?_
    rintro e w1 hq
    obtain ⟨Y, rfl, hYs, hYo, hY0⟩ := hq.val
    have hb1 : Below W.heap.size W w1 := by obtain ⟨_, -, b, -⟩ := hq; exact b
    have z1 := HZK.out w1 hb1
    have HFF := hide (HF.out Y w1 hq)
    obtain ⟨E, hE⟩ : ∃ E, E = segE h D := ⟨_, rfl⟩
    rw [← hE] at HFF ⊢
    clear hq hb1 hE
    dsimp only
    go_wp2
    have hrow := setRow_heap w1 (w.heap.size + 1) Z Y _ _ z1
    refine bodyPost_ret (results_cell_tmp (fn := Try.f16) Try.results16 _ _ (w.heap.size + 1) 61 Y (0, 0) _ rfl hrow Try.underlying61 rfl (by rw [hYs]; exact info_rseg)) rfl ?_
    exact HFF.out
  · have e6 : (p == 6) = false := by simpa using h6
    by_cases h17 : p = 17
    · have hp17 : h.p = 17 := by rw [← hp]; exact h17
      subst h17
      have K := hide (KU.out hp17)
      clear KT KU hp hp17
      go_wp2_with fail
      refine K.out.mono ?_
      rintro e w1 hq
      obtain ⟨Y, rfl, hYs, hYo, hY0⟩ := hq.val
      have hb1 : Below W.heap.size W w1 := by obtain ⟨_, -, b, -⟩ := hq; exact b
      have z1 := HZK.out w1 hb1
      have HFF := hide (HF.out Y w1 hq)
      obtain ⟨E, hE⟩ : ∃ E, E = segE h D := ⟨_, rfl⟩
      rw [← hE] at HFF ⊢
      clear hq hb1 hE
      dsimp only
      go_wp2
      have hrow := setRow_heap w1 (w.heap.size + 1) Z Y _ _ z1
      refine bodyPost_ret (results_cell_tmp (fn := Try.f16) Try.results16 _ _ (w.heap.size + 1) 61 Y (0, 0) _ rfl hrow Try.underlying61 rfl (by rw [hYs]; exact info_rseg)) rfl ?_
      exact HFF.out
    · have hE : Hid (segE h D = 14) := hide (by unfold segE; rw [if_neg (by rw [← hp]; exact h6), if_neg (by rw [← hp]; exact h17)])
      have e17 : (p == 17) = false := by simpa using h17
      clear KT KU hp h6 h17
      go_wp2
      have hrow := setRow_heap W (w.heap.size + 1) Z Z _ _ r2
      refine bodyPost_ret (results_cell_tmp (fn := Try.f16) Try.results16 _ _ (w.heap.size + 1) 61 Z (0, 0) _ rfl hrow Try.underlying61 rfl (by rw [hZs]; exact info_rseg)) rfl ?_
      exact parS_err HZE.out hE.out (by decide) (below_setRow HB.out (by omega) _)
end Go.Proofs.Ytdlilokmfekndaa

end
