/-
  The walk of segment.Parse: of a datagram, of another protocol.
-/
import Derived.Test.YtdlilokmfekndaaKg
import Derived.Test.YtdlilokmfekndaaKh
namespace Go.Proofs.Ytdlilokmfekndaa
open Go.RowKit
attribute [local go_sem ↓] exec_span exec_put exec_build heap_alloc_new heap_old
attribute [local go_sem] spanQ_ptr spanC_some heap_of_drew heap_of_drewN rs_arr rs_ad rs_ip rs_rip rs_seg putAt_ptr putOk_ptr oldOk_some World.setRow_alloc_new
set_option maxRecDepth 100000
set_option linter.unusedVariables false
set_option linter.unusedSimpArgs false

theorem items_four {items : List VItem} {a b c d : Nat × List UInt8} (h : items.map (fun it => (it.N, it.b)) = [a, b, c, d]) :
    ∃ i j k l, items = [i, j, k, l] ∧ (i.N, i.b) = a ∧ (j.N, j.b) = b ∧ (k.N, k.b) = c ∧ (l.N, l.b) = d := by
  match items, h with
  | [i, j, k, l], h =>
    simp only [List.map_cons, List.map_nil, List.cons.injEq, and_true] at h
    exact ⟨i, j, k, l, rfl, h⟩
/-- what is wrong with bytes as a datagram. -/
def udpE (h : Ip) (D : List UInt8) : Int :=
  if D.length < 8 then 10 else if D.length < nmB D 4 2 then 10 else if nmB D 4 2 < D.length then 11 else if (nmB D 6 2 == 0 && !h.v) = false ∧ nmB D 6 2 ≠ sumV h D 6 then 12 else 0
def udpS (h : Ip) (D : List UInt8) (ad : Option Addr) (cd : Nat) : Sg := ⟨17, nmB D 0 2, nmB D 2 2, 0, 0, 0, 0, 0, nmB D 6 2 == 0 && !h.v, none, 0, 0, ad, D.length - 8, cd⟩
/-- what is wrong with bytes as a segment. -/
def hdT (D : List UInt8) : Nat := 4 * (nmB D 12 1 / 16)
def tcpE (h : Ip) (D : List UInt8) : Int :=
  if D.length < 20 then 10 else if hdT D < 20 ∨ nmB D 12 1 % 16 ≠ 0 then 11 else if D.length < hdT D then 10 else if nmB D 16 2 ≠ sumV h D 16 then 12 else 0
def tcpS (D : List UInt8) (ao : Option Addr) (co : Nat) (ad : Option Addr) (cd : Nat) : Sg := ⟨6, nmB D 0 2, nmB D 2 2, nmB D 4 4, nmB D 8 4, nmB D 13 1, nmB D 14 2, nmB D 18 2, false, ao, hdT D - 20, co, ad, D.length - hdT D, cd⟩
def segE (h : Ip) (D : List UInt8) : Int := if h.p = 6 then tcpE h D else if h.p = 17 then udpE h D else 14
/-- how many bytes stand ahead of the data; the options; the data; the segment that is read. -/
def hdS (h : Ip) (D : List UInt8) : Nat := if h.p = 6 then hdT D else 8
def optS (h : Ip) (D : List UInt8) : List UInt8 := if h.p = 6 then (D.drop 20).take (hdT D - 20) else []
def datS (h : Ip) (D : List UInt8) : List UInt8 := D.drop (hdS h D)
def gotS (h : Ip) (D : List UInt8) (ao : Option Addr) (co : Nat) (ad : Option Addr) (cd : Nat) : Sg := if h.p = 6 then tcpS D ao co ad cd else udpS h D ad cd
def SegIn (w w' : World) (h : Ip) (D : List UInt8) (Y : Array Value) : Prop := ∃ ao co ad cd, SgV Y (gotS h D ao co ad cd) ∧ Gave w w' ao co (optS h D) ∧ Gave w w' ad cd (datS h D)
def ParS (w : World) (h : Ip) (D : List UInt8) (e : Ending) (w' : World) : Prop := ∃ Y, e = .returned (.tuple #[.agg Y, .int .i64 (segE h D)]) ∧ Below w.heap.size w w' ∧ (segE h D ≠ 0 → Y = (sgL nSg).toArray) ∧ (segE h D = 0 → SegIn w w' h D Y)
theorem parS_err {w W : World} {h : Ip} {D : List UInt8} {E : Int} {Z : Array Value} (hZ : Z = (sgL nSg).toArray) (hE : segE h D = E) (h0 : E ≠ 0) (hb : Below w.heap.size w W) : ParS w h D (.returned (.tuple #[.agg Z, .int .i64 E])) W :=
  ⟨_, by rw [hE], hb, fun _ => hZ, fun h => absurd (hE.symm.trans h) h0⟩
theorem built_noneS : Try.prog.built 53 [] = some (sgL nSg).toArray := by kernel_rfl
def uSg (a b : Int) (ns : Bool) : Sg := ⟨17, a, b, 0, 0, 0, 0, 0, ns, none, 0, 0, none, 0, 0⟩
theorem built_udp (a b : Int) (ns : Bool) : Try.prog.built 53 [(0, .int .i64 17), (1, .int .i64 a), (2, .int .i64 b), (8, .bool ns)] = some (sgL (uSg a b ns)).toArray := by kernel_rfl
theorem sg_set10 (s : Sg) (a : Option Addr) (n c : Nat) : (sgL s).toArray.setIfInBounds 10 (.slice a n c) = (sgL { s with ad := a, nd := n, cd := c }).toArray := by
  rw [List.setIfInBounds_toArray]; rfl
theorem sg_set9 (s : Sg) (a : Option Addr) (n c : Nat) : (sgL s).toArray.setIfInBounds 9 (.slice a n c) = (sgL { s with ao := a, no := n, co := c }).toArray := by
  rw [List.setIfInBounds_toArray]; rfl
theorem nmB_two (D : List UInt8) (k : Nat) : nmB D k 2 ≤ 65535 := by
  have h1 := numS_lt ((D.drop k).take 2)
  have h2 : 256 ^ ((D.drop k).take 2).length ≤ 256 ^ 2 := Nat.pow_le_pow_right (by decide) (by rw [List.length_take]; omega)
  have h3 : (256 : Nat) ^ 2 = 65536 := by decide
  unfold nmB
  omega
theorem sumV_pos (h : Ip) (b : List UInt8) (k : Nat) (hp : h.p = 17) : sumV h b k ≠ 0 := by
  unfold sumV
  rw [hp]
  split
  · omega
  · rename_i h; exact fun e => h ⟨e, rfl⟩

/-- a datagram that is read: its data in memory of their own. -/
theorem parS_udp {w w6 w7 w8 : World} {h : Ip} {D : List UInt8} {Y8 : Array Value} {A2 : Option Addr} {c2 G z : Nat} (hE : segE h D = 0) (hp : h.p = 17) (V : SgV Y8 (gotS h D none 0 A2 c2)) (h6 : Below w.heap.size w w6) (g2 : Gave w6 w7 A2 c2 (D.drop 8)) (b7 : Below w6.heap.size w6 w7) (h78 : w7.grownBy w8 (some G)) (hG : G < w6.heap.size) (hG2 : w.heap.size ≤ G) (hz : w.heap.size ≤ z) (hz6 : z < w6.heap.size) :
    ParS w h D (.returned (.tuple #[.agg Y8, .int .i64 0])) (w8.setRow z Y8) := by
  obtain ⟨y1, y2, y3, y4⟩ := g2
  have n6 := h6.size
  have n7 := b7.size
  have n8 : w7.heap.size ≤ w8.heap.size := h78.size
  have hs := setRow_grown w8 z Y8
  have hb8 : Below w.heap.size w w8 := (h6.trans (b7.mono n6)).grown h78 (by omega) (fun i e => by cases e; exact hG2)
  have q1 : Byt w8 w7.heap.size A2 (D.drop 8) := y1.other (Nat.le_refl _) h78 (fun a e => by have := y4 a e; omega)
  have q2 : Byt (w8.setRow z Y8) w7.heap.size A2 (D.drop 8) := q1.other n8 hs (fun a e => by have := y4 a e; omega)
  refine ⟨_, by rw [hE], below_setRow hb8 hz _, fun h0 => absurd hE h0, fun _ => ⟨none, 0, A2, c2, V, ?_, ?_⟩⟩
  · unfold optS
    rw [hp]
    exact ⟨Byt.nil _ _ _, Nat.le_refl _, fun _ => rfl, fun x e => by cases e⟩
  · unfold datS hdS
    rw [hp]
    exact ⟨q2.more (by rw [size_setRow]; exact n8), y2, y3, fun x e => Nat.le_trans n6 (y4 x e)⟩
theorem heap_alloc_drew (w : World) (o : Obj) : (w.alloc o).drew.heap[w.heap.size]? = some o := heap_alloc_new w o
theorem setRow_drew (w : World) (g : Nat) (cs : Array Value) : w.drew.setRow g cs = (w.setRow g cs).drew := rfl
attribute [local go_sem ↓] heap_alloc_drew
attribute [local go_sem] setRow_drew
set_option maxHeartbeats 8000000 in
theorem parseU_any (w : World) (X : Array Value) (h : Ip) (x : IpV X h) (D : List UInt8) (hp : h.p = 17) (hD : Byt w w.heap.size h.ad D) (hDl : D.length = h.nd) (hdc : h.nd ≤ h.cd) (hm : h.nd ≤ 140737488355328) :
    Calls Try.prog 22 #[.agg X] w fun e w' => ParS w h D e w' := by
  have hxs := x.size
  have hxr := x.x0
  obtain ⟨W, hW⟩ : ∃ W, (w.alloc (.cells X 48)).alloc (.cells (sgL nSg).toArray 53) = W := ⟨_, rfl⟩
  obtain ⟨r1, r2, hz, hbW⟩ := two_packs w X _ _ _ W hW
  obtain ⟨Z, hZ⟩ : ∃ Z, Z = (sgL nSg).toArray := ⟨_, rfl⟩
  have hbn := built_noneS
  rw [← hZ] at r2 hbn
  have hZs : Z.size = 11 := by rw [hZ]; rfl
  have hZo : allOne Z = true := by rw [hZ]; exact nSg_ok.one
  have HZE := hide hZ
  have HXC := hide (fun (W1 : World) (r : W1.heap[w.heap.size]? = some (.cells X 48 (0, 0))) => (⟨(x.cells r).c0, hDl ▸ (x.cells r).c42⟩ : W1.cell? ⟨w.heap.size, 0, none⟩ = some (.bool h.v) ∧ W1.cell? ⟨w.heap.size, 42, none⟩ = some (.slice h.ad D.length h.cd)))
  have hkeep := hide (fun (W1 : World) (b : Below W.heap.size W W1) => (⟨(b.block w.heap.size (by omega)).trans r1, (b.block (w.heap.size + 1) (by omega)).trans r2⟩ : W1.heap[w.heap.size]? = some (.cells X 48 (0, 0)) ∧ W1.heap[w.heap.size + 1]? = some (.cells Z 53 (0, 0))))
  obtain ⟨c0, c42⟩ := HXC.out W r1
  have c42d : W.drew.cell? ⟨w.heap.size, 42, none⟩ = some (.slice h.ad D.length h.cd) := c42
  obtain ⟨RR, hRR⟩ : ∃ R, R = runS D (opsN [2, 2, 2, 2]) 0 := ⟨_, rfl⟩
  have KR : Hid (∀ (W1 : World), Below W.heap.size W W1 → ∀ (Al : Option Addr) (cl : Nat), Ops W1 W1.heap.size Al (opsN [2, 2, 2, 2]) → Calls Try.prog 45 #[.slice h.ad D.length h.cd, .slice Al 4 cl] W1 fun e w' => ∃ vv items, e = .returned (.tuple #[vv, .int .i64 (RR.2.1 : Int), .int .i64 (RR.2.2 : Int)]) ∧ OwnV w' W1.heap.size vv items ∧ items.map (fun it => (it.N, it.b)) = RR.1 ∧ Below W1.heap.size W1 w') := hide (fun W1 b Al cl ho => by
    rw [hRR]
    exact run_any W1 h.ad Al D h.cd cl (opsN [2, 2, 2, 2]) (by omega) (by omega) ((hD.below (hbW.trans (b.mono hbW.size))).more (Nat.le_trans hbW.size b.size)) ho (by simp [opsN]))
  have KS := hide (fun (W1 : World) (b : Below W.heap.size W W1) (h8 : 8 ≤ D.length) => sumS_any W1 X h x h.ad h.cd D ((hD.below (hbW.trans (b.mono hbW.size))).more (Nat.le_trans hbW.size b.size)) (by omega) (by omega) (by rw [hp, if_neg (by decide)]; exact h8))
  have KB := hide (fun (W1 : World) (b : Below W.heap.size W W1) (h8 : 8 ≤ D.length) => behindS_any W1 h.ad h.cd D 8 8 ((hD.below (hbW.trans (b.mono hbW.size))).more (Nat.le_trans hbW.size b.size)) (by omega) (by omega) (Nat.le_refl _) h8 (by omega))
  rw [hp, if_neg (by decide)] at KS
  obtain ⟨v, hv⟩ : ∃ v, v = h.v := ⟨_, rfl⟩
  have HV := hide hv
  have HP := hide hp
  have HB := hide hbW
  have HW := hide hW
  have HZ := hide hz
  have HM : Hid (D.length ≤ 140737488355328) := hide (by omega)
  have HRUN := runS_nums D [2, 2, 2, 2] 0 (by simp) (Nat.zero_le _)
  rw [← hRR] at HRUN
  have HRUN := hide HRUN
  rw [← hv] at c0
  have HXC : Hid (∀ W1 : World, Below W.heap.size W W1 → W1.cell? ⟨w.heap.size, 0, none⟩ = some (.bool v) ∧ W1.cell? ⟨w.heap.size, 42, none⟩ = some (.slice h.ad D.length h.cd)) := hide (fun W1 b => by rw [hv]; exact HXC.out W1 (hkeep.out W1 b).1)
  clear hRR hv hp hbW hW hz hD hDl hdc hm x r1 r2 hZ
  go_enter Try.func22, Try.ntmps22
  go_upto_region 1 with (fail)
  change Code.wp _ _ _ _ ((w.alloc (.cells X 48)).alloc (.cells (sgL nSg).toArray 53))
  rw [HW.out]
  go_region_held3 (fun w' => w'.cell? ⟨w.heap.size, 42, none⟩ = some (.slice h.ad D.length h.cd))
    (first | exact c42d | exact c42 | exact d42 | exact e42 | fail)
    (first
      | (go_at_call 49; (with_reducible refine (piecesU_any _).mono ?_); rintro e w2 ⟨v2, rfl, o2, b2⟩
         have B2 : Hid (Below W.heap.size W w2) := hide (below_undrew' b2)
         obtain ⟨Al, cl, ev, hop, -⟩ := o2.shape
         have ev' : v2 = .slice Al 4 cl := ev
         subst ev'
         clear ev
         have O2 : Hid (Ops w2 w2.heap.size Al (opsN [2, 2, 2, 2])) := hide hop
         have d42 := (HXC.out w2 B2.out).2
         clear b2 o2 hop)
      | (go_at_call 45; (with_reducible refine (KR.out w2 B2.out Al cl O2.out).mono ?_); rintro e w3 ⟨vv, items, rfl, hov, hit, b3⟩
         have B3 : Hid (Below W.heap.size W w3) := hide (B2.out.trans (b3.mono B2.out.size))
         have e42 := (HXC.out w3 B3.out).2
         have HOV := hide hov
         have HIT := hide hit
         clear b3 hov hit)
      | fail)
  all_goals (
    obtain ⟨p3, z3⟩ := hkeep.out w3 B3.out
    obtain ⟨d0, -⟩ := HXC.out w3 B3.out
    have BB3 : Hid (Below w.heap.size w w3) := hide (HB.out.trans (B3.out.mono HB.out.size))
    clear c0 c42 c42d d42
    by_cases h8 : D.length < 8
    · have hE : Hid (segE h D = 10) := hide (by unfold segE udpE; rw [HP.out, if_neg (by decide), if_pos rfl, if_pos h8])
      have hr : RR.2.2 = 10 := HRUN.out.2 (by simpa using h8)
      rw [hr]
      clear hr
      go_wp2
      have hrow := setRow_heap w3 (w.heap.size + 1) Z Z _ _ z3
      refine bodyPost_ret (results_cell_tmp (fn := Try.f22) Try.results22 _ _ (w.heap.size + 1) 53 Z (0, 0) _ rfl hrow Try.underlying53 rfl (by rw [hZs]; exact info_seg)) rfl ?_
      exact parS_err HZE.out hE.out (by decide) (below_setRow BB3.out (by omega) _)
    · have hRR := HRUN.out.1 (by simp; omega)
      rw [hRR] at HIT ⊢
      obtain ⟨i0, i1, i2, i3, rfl, e0, e1, e2, e3⟩ := items_four (by simpa [numsAt] using HIT.out)
      obtain ⟨Av, cv, rfl, hcv, hcell⟩ := HOV.out.shape
      obtain ⟨gg, rfl, hgg, hgl, hcc⟩ := hcell (Nat.succ_pos 3)
      obtain ⟨v0, -⟩ := hcc 0 (by simp)
      obtain ⟨v1, -⟩ := hcc 1 (by simp)
      obtain ⟨v2, -⟩ := hcc 2 (by simp)
      obtain ⟨v3, -⟩ := hcc 3 (by simp)
      simp only [Prod.mk.injEq] at e0 e1 e2 e3
      simp only [List.getElem_cons_zero, List.getElem_cons_succ, Nat.zero_mul] at v0 v1 v2 v3
      rw [e0.1] at v0
      rw [e1.1] at v1
      rw [e2.1] at v2
      rw [e3.1] at v3
      have b0 := nmB_two D 0
      have b1 := nmB_two D 2
      have b2 := nmB_two D 4
      have b3 := nmB_two D 6
      have hEE : Hid (segE h D = if D.length < nmB D 4 2 then 10 else if nmB D 4 2 < D.length then 11 else if (nmB D 6 2 == 0 && !v) = false ∧ nmB D 6 2 ≠ sumV h D 6 then 12 else 0) := hide (by unfold segE udpE; rw [HP.out, if_neg (by decide), if_pos rfl, if_neg h8, HV.out])
      have hGS : Hid (∀ ao co ad cd, gotS h D ao co ad cd = ⟨17, nmB D 0 2, nmB D 2 2, 0, 0, 0, 0, 0, nmB D 6 2 == 0 && !v, none, 0, 0, ad, D.length - 8, cd⟩) := hide (fun ao co ad cd => by unfold gotS; rw [HP.out, HV.out]; rfl)
      obtain ⟨n0, hn0⟩ : ∃ n, n = nmB D 0 2 := ⟨_, rfl⟩
      obtain ⟨n1, hn1⟩ : ∃ n, n = nmB D 2 2 := ⟨_, rfl⟩
      obtain ⟨n2, hn2⟩ : ∃ n, n = nmB D 4 2 := ⟨_, rfl⟩
      obtain ⟨n3, hn3⟩ : ∃ n, n = nmB D 6 2 := ⟨_, rfl⟩
      obtain ⟨S, hS⟩ : ∃ n, n = sumV h D 6 := ⟨_, rfl⟩
      have HS0 : Hid (S ≠ 0) := hide (by rw [hS]; exact sumV_pos h D 6 HP.out)
      have hS6 := sumV_le h D 6
      have KS := hide (fun (W1 : World) (b : Below W.heap.size W W1) => KS.out W1 b (by omega))
      have KB := hide (fun (W1 : World) (b : Below W.heap.size W W1) => KB.out W1 b (by omega))
      rw [← hS] at KS hEE hS6
      rw [← hn0] at v0 b0 hGS
      rw [← hn1] at v1 b1 hGS
      rw [← hn2] at v2 b2 hEE
      rw [← hn3] at v3 b3 hEE hGS
      have w0 : IntKind.i64.wrap (n0 : Int) = (n0 : Int) := IntWalk.i64_in _ (by omega)
      have w1 : IntKind.i64.wrap (n1 : Int) = (n1 : Int) := IntWalk.i64_in _ (by omega)
      have w2' : IntKind.i64.wrap (n2 : Int) = (n2 : Int) := IntWalk.i64_in _ (by omega)
      have w3' : IntKind.u16.wrap (n3 : Int) = (n3 : Int) := IntWalk.u16_in _ (by omega)
      have hgb := hgg
      clear hRR hn0 hn1 hn2 hn3 hS hcc hcell HOV HIT e0 e1 e2 e3 hgg HRUN KR O2
      have hcase : (n3 = 0 ∧ v = false) ∨ (n3 = 0 ∧ v = true) ∨ ¬ n3 = 0 := by
        by_cases h0 : n3 = 0
        · cases v
          · exact .inl ⟨h0, rfl⟩
          · exact .inr (.inl ⟨h0, rfl⟩)
        · exact .inr (.inr h0)
      have q0d : w3.drew.cell? ⟨gg, 4, none⟩ = some (.int .u64 (n2 : Int)) := v2
      have q1d : w3.drew.cell? ⟨gg, 6, none⟩ = some (.int .u64 (n3 : Int)) := v3
      rw [show ([i0, i1, i2, i3] : List VItem).length = 4 from rfl, show (0 + [2, 2, 2, 2].sum) = 8 from rfl]
      go_wp2_with fail
      go_region_held3 (fun w' => w'.cell? ⟨gg, 4, none⟩ = some (.int .u64 (n2 : Int)) ∧ w'.cell? ⟨gg, 6, none⟩ = some (.int .u64 (n3 : Int)))
        (first | exact ⟨q0d, q1d⟩ | exact ⟨v2, v3⟩ | fail) (fail)
      all_goals (
        have d0' : w3.drew.cell? ⟨w.heap.size, 0, none⟩ = some (.bool v) := d0
        have z3d : w3.drew.heap[w.heap.size + 1]? = some (.cells Z 53 (0, 0)) := z3
        have BD3 : Hid (Below w.heap.size w w3.drew) := hide BB3.out.drew
        have BW3 : Hid (Below W.heap.size W w3.drew) := hide B3.out.drew
        have v0d : w3.drew.cell? ⟨gg, 0, none⟩ = some (.int .u64 (n0 : Int)) := v0
        have v1d : w3.drew.cell? ⟨gg, 2, none⟩ = some (.int .u64 (n1 : Int)) := v1
        obtain ⟨p3d, -⟩ := hkeep.out w3.drew BW3.out
        have e42d := (HXC.out w3.drew BW3.out).2
        have hGG : Hid (W.heap.size ≤ gg ∧ gg < w3.drew.heap.size) := hide ⟨Nat.le_trans B2.out.size hgb, hgl⟩
        clear v0 v1 v2 v3 d0 z3 BB3 B3 p3 q0d q1d e42 hgl hgb
        generalize w3.drew = w4 at *
        rcases Nat.lt_trichotomy D.length n2 with hlt | heq | hgt
        · have hE : Hid (segE h D = 10) := hide (by rw [hEE.out, if_pos hlt])
          have hlt' : (D.length : Int) < (n2 : Int) := by omega
          rcases hcase with ⟨rfl, rfl⟩ | ⟨rfl, rfl⟩ | hn30
          all_goals (
            go_wp2_with fail
            have hrow := setRow_heap w4 (w.heap.size + 1) Z Z _ _ z3d
            refine bodyPost_ret (results_cell_tmp (fn := Try.f22) Try.results22 _ _ (w.heap.size + 1) 53 Z (0, 0) _ rfl hrow Try.underlying53 rfl (by rw [hZs]; exact info_seg)) rfl ?_
            exact parS_err HZE.out hE.out (by decide) (below_setRow BD3.out (by omega) _))
        · subst heq
          have hEE : Hid (segE h D = if (n3 == 0 && !v) = false ∧ n3 ≠ S then 12 else 0) := hide (by rw [hEE.out, if_neg (by omega), if_neg (by omega)])
          rcases hcase with ⟨rfl, rfl⟩ | ⟨rfl, rfl⟩ | hn30
          · have hE : Hid (segE h D = 0) := hide (by rw [hEE.out]; rfl)
            have hbu := built_udp n0 n1 true
            obtain ⟨Y, hY⟩ : ∃ Y, Y = (sgL (uSg n0 n1 true)).toArray := ⟨_, rfl⟩
            rw [← hY] at hbu
            have hYV : SgV Y (uSg n0 n1 true) := ⟨hY, Nat.succ_pos _, Nat.succ_pos _⟩
            have hYs : Y.size = 11 := hYV.size
            have hYo : allOne Y = true := hYV.one
            have HY := hide hYV
            have HYE := hide hY
            clear hY hYV
            have HS : Hid (∀ W1, Below w4.heap.size w4 W1 → W1.cell? ⟨gg, 0, none⟩ = some (.int .u64 (n0 : Int)) ∧ W1.cell? ⟨gg, 2, none⟩ = some (.int .u64 (n1 : Int))) := hide (fun W1 b => ⟨(b.cell (p := ⟨gg, 0, none⟩) hGG.out.2).trans v0d, (b.cell (p := ⟨gg, 2, none⟩) hGG.out.2).trans v1d⟩)
            go_wp2_with fail
            go_region_held3 (fun w' => w'.cell? ⟨gg, 0, none⟩ = some (.int .u64 (n0 : Int)) ∧ w'.cell? ⟨gg, 2, none⟩ = some (.int .u64 (n1 : Int)))
              (first | exact ⟨v0d, v1d⟩ | exact HS.out _ ((Below.refl _ _).alloc (Nat.le_refl _) _) | exact HS.out _ ((Below.refl _ _).drew.alloc (Nat.le_refl _) _) | exact HS.out _ ((Below.refl _ _).alloc (Nat.le_refl _) _).drew | fail) (fail)
            all_goals (
              obtain ⟨G, hG⟩ : ∃ G, G = w4.heap.size := ⟨_, rfl⟩
              obtain ⟨w6, hw6⟩ : ∃ w6, (w4.alloc (.cells Y 53)).drew = w6 := ⟨_, rfl⟩
              have rY : w6.heap[G]? = some (.cells Y 53 (0, 0)) := by rw [← hw6, hG]; exact heap_alloc_new w4 _
              have b6 : Below w4.heap.size w4 w6 := by rw [← hw6]; exact ((Below.refl _ _).alloc (Nat.le_refl _) _).drew
              have C6 : Hid (Below W.heap.size W w6) := hide (BW3.out.trans (b6.mono BW3.out.size))
              have D6 : Hid (Below w.heap.size w w6) := hide (BD3.out.trans (b6.mono BD3.out.size))
              have GW : Hid (W.heap.size ≤ G ∧ G < w6.heap.size) := hide ⟨by rw [hG]; exact BW3.out.size, (Array.getElem?_eq_some_iff.1 rY).1⟩
              have e6 := (HXC.out w6 C6.out).2
              rw [hw6, ← hG]
              clear hw6 hG b6 HS
              go_wp2_with fail
              refine (KB.out w6 C6.out).mono ?_
              rintro e w7 ⟨A1, c1, A2, c2, rfl, g1, g2, b7⟩
              have rY7 := (b7.block G GW.out.2).trans rY
              have k10 := (HY.out.cells rY7).c10
              have f10 := frozen_of_row w7 G 10 _ _ rY7
              obtain ⟨-, z7⟩ := hkeep.out w7 (C6.out.trans (b7.mono C6.out.size))
              have rY8 := heap_setCell_same w7 G 10 _ _ (.slice A2 (D.length - 8) c2) rY7
              have h78 := grown_set w7 G 10 (.slice A2 (D.length - 8) c2)
              rw [HYE.out, sg_set10] at rY8
              obtain ⟨Y8, hY8⟩ : ∃ Y8, Y8 = (sgL { uSg n0 n1 true with ad := A2, nd := D.length - 8, cd := c2 }).toArray := ⟨_, rfl⟩
              rw [← hY8] at rY8
              have V8 : SgV Y8 (gotS h D none 0 A2 c2) := by rw [hGS.out]; exact ⟨hY8, Nat.succ_pos _, Nat.succ_pos _⟩
              have Y8s : Y8.size = 11 := V8.size
              have Y8o : allOne Y8 = true := V8.one
              have Y80 : Y8.extract 0 11 = Y8 := V8.x0
              have hzl := HZ.out
              have z8 : (w7.setCell ⟨G, 10, none⟩ (.slice A2 (D.length - 8) c2)).heap[w.heap.size + 1]? = some (.cells Z 53 (0, 0)) := (h78.block (w.heap.size + 1) (Array.getElem?_eq_some_iff.1 z7).1 (by intro e; cases e; have := GW.out.1; omega)).trans z7
              have HFIN : Hid (ParS w h D (.returned (.tuple #[.agg Y8, .int .i64 0])) ((w7.setCell ⟨G, 10, none⟩ (.slice A2 (D.length - 8) c2)).setRow (w.heap.size + 1) Y8)) := hide (parS_udp hE.out HP.out V8 D6.out g2 b7 h78 GW.out.2 (by have := GW.out.1; omega) (by omega) (by have := GW.out; omega))
              obtain ⟨w8, hw8⟩ : ∃ w8, w7.setCell ⟨G, 10, none⟩ (.slice A2 (D.length - 8) c2) = w8 := ⟨_, rfl⟩
              rw [hw8] at rY8 z8 HFIN
              clear g1 g2 b7 rY rY7 z7 h78 hY8 V8 e6 hzl
              go_wp2_with fail
              have hrow := setRow_heap w8 (w.heap.size + 1) Z Y8 _ _ z8
              refine bodyPost_ret (results_cell_tmp (fn := Try.f22) Try.results22 _ _ (w.heap.size + 1) 53 Y8 (0, 0) _ rfl hrow Try.underlying53 rfl (by rw [Y8s]; exact info_seg)) rfl ?_
              exact HFIN.out)
          · go_wp2_with fail
            refine (KS.out _ BW3.out).mono ?_
            rintro e w5 ⟨rfl, b5⟩
            have hSE : ((0 : Int) != (S : Int)) = true := by have := HS0.out; simp; omega
            have hE : Hid (segE h D = 12) := hide (by rw [hEE.out, if_pos ⟨rfl, fun e => HS0.out e.symm⟩])
            obtain ⟨p5, z5⟩ := hkeep.out w5 (BW3.out.trans (b5.mono BW3.out.size))
            have B5 : Hid (Below w.heap.size w w5) := hide (BD3.out.trans (b5.mono BD3.out.size))
            clear b5
            dsimp only
            go_wp2_with fail
            have hrow := setRow_heap w5 (w.heap.size + 1) Z Z _ _ z5
            refine bodyPost_ret (results_cell_tmp (fn := Try.f22) Try.results22 _ _ (w.heap.size + 1) 53 Z (0, 0) _ rfl hrow Try.underlying53 rfl (by rw [hZs]; exact info_seg)) rfl ?_
            exact parS_err HZE.out hE.out (by decide) (below_setRow B5.out (by omega) _)
          · have hn3b : ((n3 : Int) == 0) = false := by simp; omega
            have hnb : (n3 == 0) = false := by simpa using hn30
            go_wp2_with fail
            refine (KS.out _ BW3.out).mono ?_
            rintro e w5 ⟨rfl, b5⟩
            obtain ⟨p5, z5⟩ := hkeep.out w5 (BW3.out.trans (b5.mono BW3.out.size))
            have BW5 : Hid (Below W.heap.size W w5) := hide (BW3.out.trans (b5.mono BW3.out.size))
            have B5 : Hid (Below w.heap.size w w5) := hide (BD3.out.trans (b5.mono BD3.out.size))
            have v05 := (b5.cell (p := ⟨gg, 0, none⟩) hGG.out.2).trans v0d
            have v15 := (b5.cell (p := ⟨gg, 2, none⟩) hGG.out.2).trans v1d
            have hGG5 : Hid (gg < w5.heap.size) := hide (Nat.lt_of_lt_of_le hGG.out.2 b5.size)
            clear b5 v0d v1d z3d p3d e42d
            by_cases hSE : n3 = S
            · have hSb : ((n3 : Int) != (S : Int)) = false := by simp; omega
              have hE : Hid (segE h D = 0) := hide (by rw [hEE.out, if_neg (fun e => e.2 hSE)])
              rw [hnb] at hGS
              dsimp only
              have hbu := built_udp n0 n1 false
              obtain ⟨Y, hY⟩ : ∃ Y, Y = (sgL (uSg n0 n1 false)).toArray := ⟨_, rfl⟩
              rw [← hY] at hbu
              have hYV : SgV Y (uSg n0 n1 false) := ⟨hY, Nat.succ_pos _, Nat.succ_pos _⟩
              have hYs : Y.size = 11 := hYV.size
              have hYo : allOne Y = true := hYV.one
              have HY := hide hYV
              have HYE := hide hY
              clear hY hYV
              have HS : Hid (∀ W1, Below w5.heap.size w5 W1 → W1.cell? ⟨gg, 0, none⟩ = some (.int .u64 (n0 : Int)) ∧ W1.cell? ⟨gg, 2, none⟩ = some (.int .u64 (n1 : Int))) := hide (fun W1 b => ⟨(b.cell (p := ⟨gg, 0, none⟩) hGG5.out).trans v05, (b.cell (p := ⟨gg, 2, none⟩) hGG5.out).trans v15⟩)
              go_wp2_with fail
              go_region_held3 (fun w' => w'.cell? ⟨gg, 0, none⟩ = some (.int .u64 (n0 : Int)) ∧ w'.cell? ⟨gg, 2, none⟩ = some (.int .u64 (n1 : Int)))
                (first | exact ⟨v05, v15⟩ | exact HS.out _ ((Below.refl _ _).alloc (Nat.le_refl _) _) | exact HS.out _ ((Below.refl _ _).drew.alloc (Nat.le_refl _) _) | exact HS.out _ ((Below.refl _ _).alloc (Nat.le_refl _) _).drew | fail) (fail)
              all_goals (
                obtain ⟨G, hG⟩ : ∃ G, G = w5.heap.size := ⟨_, rfl⟩
                obtain ⟨w6, hw6⟩ : ∃ w6, (w5.alloc (.cells Y 53)).drew = w6 := ⟨_, rfl⟩
                have rY : w6.heap[G]? = some (.cells Y 53 (0, 0)) := by rw [← hw6, hG]; exact heap_alloc_new w5 _
                have b6 : Below w5.heap.size w5 w6 := by rw [← hw6]; exact ((Below.refl _ _).alloc (Nat.le_refl _) _).drew
                have C6 : Hid (Below W.heap.size W w6) := hide (BW5.out.trans (b6.mono BW5.out.size))
                have D6 : Hid (Below w.heap.size w w6) := hide (B5.out.trans (b6.mono B5.out.size))
                have GW : Hid (W.heap.size ≤ G ∧ G < w6.heap.size) := hide ⟨by rw [hG]; exact BW5.out.size, (Array.getElem?_eq_some_iff.1 rY).1⟩
                have e6 := (HXC.out w6 C6.out).2
                rw [hw6, ← hG]
                clear hw6 hG b6 HS
                go_wp2_with fail
                refine (KB.out w6 C6.out).mono ?_
                rintro e w7 ⟨A1, c1, A2, c2, rfl, g1, g2, b7⟩
                have rY7 := (b7.block G GW.out.2).trans rY
                have k10 := (HY.out.cells rY7).c10
                have f10 := frozen_of_row w7 G 10 _ _ rY7
                obtain ⟨-, z7⟩ := hkeep.out w7 (C6.out.trans (b7.mono C6.out.size))
                have rY8 := heap_setCell_same w7 G 10 _ _ (.slice A2 (D.length - 8) c2) rY7
                have h78 := grown_set w7 G 10 (.slice A2 (D.length - 8) c2)
                rw [HYE.out, sg_set10] at rY8
                obtain ⟨Y8, hY8⟩ : ∃ Y8, Y8 = (sgL { uSg n0 n1 false with ad := A2, nd := D.length - 8, cd := c2 }).toArray := ⟨_, rfl⟩
                rw [← hY8] at rY8
                have V8 : SgV Y8 (gotS h D none 0 A2 c2) := by rw [hGS.out]; exact ⟨hY8, Nat.succ_pos _, Nat.succ_pos _⟩
                have Y8s : Y8.size = 11 := V8.size
                have Y8o : allOne Y8 = true := V8.one
                have Y80 : Y8.extract 0 11 = Y8 := V8.x0
                have hzl := HZ.out
                have z8 : (w7.setCell ⟨G, 10, none⟩ (.slice A2 (D.length - 8) c2)).heap[w.heap.size + 1]? = some (.cells Z 53 (0, 0)) := (h78.block (w.heap.size + 1) (Array.getElem?_eq_some_iff.1 z7).1 (by intro e; cases e; have := GW.out.1; omega)).trans z7
                have HFIN : Hid (ParS w h D (.returned (.tuple #[.agg Y8, .int .i64 0])) ((w7.setCell ⟨G, 10, none⟩ (.slice A2 (D.length - 8) c2)).setRow (w.heap.size + 1) Y8)) := hide (parS_udp hE.out HP.out V8 D6.out g2 b7 h78 GW.out.2 (by have := GW.out.1; omega) (by omega) (by have := GW.out; omega))
                obtain ⟨w8, hw8⟩ : ∃ w8, w7.setCell ⟨G, 10, none⟩ (.slice A2 (D.length - 8) c2) = w8 := ⟨_, rfl⟩
                rw [hw8] at rY8 z8 HFIN
                clear g1 g2 b7 rY rY7 z7 h78 hY8 V8 e6 hzl
                go_wp2_with fail
                have hrow := setRow_heap w8 (w.heap.size + 1) Z Y8 _ _ z8
                refine bodyPost_ret (results_cell_tmp (fn := Try.f22) Try.results22 _ _ (w.heap.size + 1) 53 Y8 (0, 0) _ rfl hrow Try.underlying53 rfl (by rw [Y8s]; exact info_seg)) rfl ?_
                exact HFIN.out)
            · have hSb : ((n3 : Int) != (S : Int)) = true := by simp; omega
              have hE : Hid (segE h D = 12) := hide (by rw [hEE.out, if_pos ⟨by rw [hnb]; rfl, hSE⟩])
              dsimp only
              go_wp2_with fail
              have hrow := setRow_heap w5 (w.heap.size + 1) Z Z _ _ z5
              refine bodyPost_ret (results_cell_tmp (fn := Try.f22) Try.results22 _ _ (w.heap.size + 1) 53 Z (0, 0) _ rfl hrow Try.underlying53 rfl (by rw [hZs]; exact info_seg)) rfl ?_
              exact parS_err HZE.out hE.out (by decide) (below_setRow B5.out (by omega) _)
        · have hE : Hid (segE h D = 11) := hide (by rw [hEE.out, if_neg (by omega), if_pos hgt])
          have hgt' : (n2 : Int) < (D.length : Int) := by omega
          rcases hcase with ⟨rfl, rfl⟩ | ⟨rfl, rfl⟩ | hn30
          all_goals (
            go_wp2_with fail
            have hrow := setRow_heap w4 (w.heap.size + 1) Z Z _ _ z3d
            refine bodyPost_ret (results_cell_tmp (fn := Try.f22) Try.results22 _ _ (w.heap.size + 1) 53 Z (0, 0) _ rfl hrow Try.underlying53 rfl (by rw [hZs]; exact info_seg)) rfl ?_
            exact parS_err HZE.out hE.out (by decide) (below_setRow BD3.out (by omega) _))))
end Go.Proofs.Ytdlilokmfekndaa
