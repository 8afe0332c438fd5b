import Derived.Test.YtihakjcccbionaaGreatDoorIw
import Derived.Test.YtihakjcccbionaaGreatDoorMke
import Derived.Test.YtihakjcccbionaaGreatDoorMgl
import Derived.Test.YtihakjcccbionaaGreatDoorMgv
import Derived.Test.YtihakjcccbionaaGreatDoorMkl
import Derived.Test.YtihakjcccbionaaGreatDoorMad
section
/-
  What is read of any bytes as a packet: its head, its data, what is wrong with them.
-/
namespace Go.Proofs.YtihakjcccbionaaGreatDoor
open Go.RowKit
set_option linter.unusedVariables false
set_option linter.unusedSimpArgs false

/-- the packet that bytes are, without its lists; its data. -/
def pkH (l : List UInt8) : Ip := if (l.getD 0 0).toNat / 16 = 4 then p4H l none 0 none 0 else p6H l none 0
def pkD (l : List UInt8) : List UInt8 := if (l.getD 0 0).toNat / 16 = 4 then l.drop (4 * (nmB l 0 1 % 16)) else l.drop 40
def seenE (l : List UInt8) : Int := if pkE l ≠ 0 then pkE l else segE (pkH l) (pkD l)
def seenG (l : List UInt8) : Sg := gotS (pkH l) (pkD l) none 0 none 0
theorem gotS_same (h : Ip) (D : List UInt8) (ao ad : Option Addr) (co cd : Nat) : (gotS h D ao co ad cd).a = (gotS h D none 0 none 0).a ∧ (gotS h D ao co ad cd).b = (gotS h D none 0 none 0).b ∧ (gotS h D ao co ad cd).f = (gotS h D none 0 none 0).f := by
  unfold gotS
  split <;> exact ⟨rfl, rfl, rfl⟩
/-- that it lives as long. -/
theorem PktA.ipT {w w' : World} {l : List UInt8} {X : Array Value} (h : PktA w w' l X) : ∃ H, IpV X H ∧ Gave w w' H.ad H.cd (pkD l) ∧ (pkD l).length = H.nd ∧ (∀ D, segE H D = segE (pkH l) D) ∧ (∀ D a b c d, gotS H D a b c d = gotS (pkH l) D a b c d) ∧ H.sv = (pkH l).sv ∧ H.sb = (pkH l).sb ∧ H.dv = (pkH l).dv ∧ H.db = (pkH l).db ∧ H.p = (pkH l).p ∧ H.ttl = (pkH l).ttl := by
  rcases h with ⟨h4, -, ao, co, ad, cd, V, -, g⟩ | ⟨h6, -, ad, cd, V, g⟩
  · have e1 : pkH l = p4H l none 0 none 0 := by unfold pkH; rw [if_pos h4]
    have e2 : pkD l = l.drop (4 * (nmB l 0 1 % 16)) := by unfold pkD; rw [if_pos h4]
    rw [e1, e2]
    exact ⟨_, V, g, by rw [List.length_drop]; rfl, fun _ => rfl, fun _ _ _ _ _ => rfl, rfl, rfl, rfl, rfl, rfl, rfl⟩
  · have h4 : ¬ (l.getD 0 0).toNat / 16 = 4 := by omega
    have e1 : pkH l = p6H l none 0 := by unfold pkH; rw [if_neg h4]
    have e2 : pkD l = l.drop 40 := by unfold pkD; rw [if_neg h4]
    rw [e1, e2]
    exact ⟨_, V, g, by rw [List.length_drop]; rfl, fun _ => rfl, fun _ _ _ _ _ => rfl, rfl, rfl, rfl, rfl, rfl, rfl⟩
theorem PktA.ip {w w' : World} {l : List UInt8} {X : Array Value} (h : PktA w w' l X) : ∃ H, IpV X H ∧ Gave w w' H.ad H.cd (pkD l) ∧ (pkD l).length = H.nd ∧ (∀ D, segE H D = segE (pkH l) D) ∧ (∀ D a b c d, gotS H D a b c d = gotS (pkH l) D a b c d) ∧ H.sv = (pkH l).sv ∧ H.sb = (pkH l).sb ∧ H.dv = (pkH l).dv ∧ H.db = (pkH l).db ∧ H.p = (pkH l).p := by
  rcases h with ⟨h4, -, ao, co, ad, cd, V, -, g⟩ | ⟨h6, -, ad, cd, V, g⟩
  · have e1 : pkH l = p4H l none 0 none 0 := by unfold pkH; rw [if_pos h4]
    have e2 : pkD l = l.drop (4 * (nmB l 0 1 % 16)) := by unfold pkD; rw [if_pos h4]
    rw [e1, e2]
    exact ⟨_, V, g, by rw [List.length_drop]; rfl, fun _ => rfl, fun _ _ _ _ _ => rfl, rfl, rfl, rfl, rfl, rfl⟩
  · have h4 : ¬ (l.getD 0 0).toNat / 16 = 4 := by omega
    have e1 : pkH l = p6H l none 0 := by unfold pkH; rw [if_neg h4]
    have e2 : pkD l = l.drop 40 := by unfold pkD; rw [if_neg h4]
    rw [e1, e2]
    exact ⟨_, V, g, by rw [List.length_drop]; rfl, fun _ => rfl, fun _ _ _ _ _ => rfl, rfl, rfl, rfl, rfl, rfl⟩
end Go.Proofs.YtihakjcccbionaaGreatDoor

end
section
/-
  The walk of the program's Unwrap: a frame's way and its tunnel.
-/
namespace Go.Proofs.YtihakjcccbionaaGreatDoor
open Go.RowKit
set_option maxRecDepth 100000
set_option linter.unusedVariables false
set_option linter.unusedSimpArgs false
theorem info_gpath : (Tryz.prog.info? 34).map (·.size) = some 37 := by kernel_rfl
theorem rs_gpath : rowSize Tryz.prog 34 = some 37 := by kernel_rfl
theorem rs_gwpath : rowSize Tryz.prog 26 = some 37 := by kernel_rfl
attribute [local go_sem ↓] exec_span exec_put exec_build heap_alloc_new heap_old heap_alloc_drew
attribute [local go_sem] spanQ_ptr spanC_some heap_of_drew heap_of_drewN rs_arr rs_ad rs_ip rs_rip rs_seg rs_rseg rs_tunG rs_rtunG rs_gpath rs_gwpath putAt_ptr putOk_ptr oldOk_some World.setRow_alloc_new setRow_drew

theorem results_cells_tmp {P : Program} {fn : Func} {p p2 q : Tmp} {ty ty2 : TypeId} (h : fn.results = #[.cell p ty, .cell p2 ty2, .tmp q]) (tmps : Array Value) (w : World) (g : Nat) (t : TypeId) (cs : Array Value) (fr : Nat × Nat) (d : TypeDesc)
    (hp : tmps.getD p undef = .pointer (some ⟨g, 0, none⟩)) (hg : w.heap[g]? = some (.cells cs t fr))
    (hu : P.underlying ty = some d) (hd : (match d with | .struct _ | .array _ _ => true | _ => false) = true) (hi : (P.info? ty).map (·.size) = some cs.size)
    (g2 : Nat) (t2 : TypeId) (cs2 : Array Value) (fr2 : Nat × Nat) (d2 : TypeDesc)
    (hp2 : tmps.getD p2 undef = .pointer (some ⟨g2, 0, none⟩)) (hg2 : w.heap[g2]? = some (.cells cs2 t2 fr2))
    (hu2 : P.underlying ty2 = some d2) (hd2 : (match d2 with | .struct _ | .array _ _ => true | _ => false) = true) (hi2 : (P.info? ty2).map (·.size) = some cs2.size) :
    (results fn tmps).run P w = .ok (.tuple #[.agg cs, .agg cs2, tmps.getD q undef]) w := by
  have hp' : tmps[p]?.getD undef = .pointer (some ⟨g, 0, none⟩) := by simpa using hp
  have hp2' : tmps[p2]?.getD undef = .pointer (some ⟨g2, 0, none⟩) := by simpa using hp2
  simp [results, h, hp', hp2', asAddr, run_loadVar_row w g t ty cs fr d hg hu hd hi, run_loadVar_row w g2 t2 ty2 cs2 fr2 d2 hg2 hu2 hd2 hi2]
/-- no way. -/
def zP : PaG := ⟨false, List.replicate 16 0, false, List.replicate 16 0, 0, 0, 0⟩
theorem zP_ok : PaV (paL zP).toArray zP := ⟨rfl, by simp [zP], by simp [zP]⟩
theorem built_gpath0 : Tryz.prog.built 34 [] = some (paL zP).toArray := by kernel_rfl
theorem built_gwpath0 : Tryz.prog.built 26 [] = some (paL zP).toArray := by kernel_rfl
theorem built_gpA (s d : Bool) (a t : Int) (b0 b1 b2 b3 b4 b5 b6 b7 b8 b9 b10 b11 b12 b13 b14 b15 c0 c1 c2 c3 c4 c5 c6 c7 c8 c9 c10 c11 c12 c13 c14 c15 : UInt8) :
    Tryz.prog.built 34 [(0, .agg (adL s [b0, b1, b2, b3, b4, b5, b6, b7, b8, b9, b10, b11, b12, b13, b14, b15]).toArray), (1, .agg (adL d [c0, c1, c2, c3, c4, c5, c6, c7, c8, c9, c10, c11, c12, c13, c14, c15]).toArray), (2, .int .i64 a), (3, .int .i64 t)] = some (paL ⟨s, [b0, b1, b2, b3, b4, b5, b6, b7, b8, b9, b10, b11, b12, b13, b14, b15], d, [c0, c1, c2, c3, c4, c5, c6, c7, c8, c9, c10, c11, c12, c13, c14, c15], a, t, 0⟩).toArray := by kernel_rfl
theorem built_gwpA (s d : Bool) (a t : Int) (b0 b1 b2 b3 b4 b5 b6 b7 b8 b9 b10 b11 b12 b13 b14 b15 c0 c1 c2 c3 c4 c5 c6 c7 c8 c9 c10 c11 c12 c13 c14 c15 : UInt8) :
    Tryz.prog.built 26 [(0, .agg (adL s [b0, b1, b2, b3, b4, b5, b6, b7, b8, b9, b10, b11, b12, b13, b14, b15]).toArray), (1, .agg (adL d [c0, c1, c2, c3, c4, c5, c6, c7, c8, c9, c10, c11, c12, c13, c14, c15]).toArray), (2, .int .i64 a), (3, .int .i64 t)] = some (paL ⟨s, [b0, b1, b2, b3, b4, b5, b6, b7, b8, b9, b10, b11, b12, b13, b14, b15], d, [c0, c1, c2, c3, c4, c5, c6, c7, c8, c9, c10, c11, c12, c13, c14, c15], a, t, 0⟩).toArray := by kernel_rfl
theorem built_gpG (s d : Bool) (sb db : List UInt8) (a t : Int) (ls : sb.length = 16) (ld : db.length = 16) : Tryz.prog.built 34 [(0, .agg (adL s sb).toArray), (1, .agg (adL d db).toArray), (2, .int .i64 a), (3, .int .i64 t)] = some (paL ⟨s, sb, d, db, a, t, 0⟩).toArray := by
  match sb, db, ls, ld with
  | [_, _, _, _, _, _, _, _, _, _, _, _, _, _, _, _], [_, _, _, _, _, _, _, _, _, _, _, _, _, _, _, _], _, _ => exact built_gpA _ _ _ _ _ _ _ _ _ _ _ _ _ _ _ _ _ _ _ _ _ _ _ _ _ _ _ _ _ _ _ _ _ _ _ _
theorem built_gwpG (s d : Bool) (sb db : List UInt8) (a t : Int) (ls : sb.length = 16) (ld : db.length = 16) : Tryz.prog.built 26 [(0, .agg (adL s sb).toArray), (1, .agg (adL d db).toArray), (2, .int .i64 a), (3, .int .i64 t)] = some (paL ⟨s, sb, d, db, a, t, 0⟩).toArray := by
  match sb, db, ls, ld with
  | [_, _, _, _, _, _, _, _, _, _, _, _, _, _, _, _], [_, _, _, _, _, _, _, _, _, _, _, _, _, _, _, _], _, _ => exact built_gwpA _ _ _ _ _ _ _ _ _ _ _ _ _ _ _ _ _ _ _ _ _ _ _ _ _ _ _ _ _ _ _ _ _ _ _ _
/-- what is within a frame, as bytes; the frame's way. -/
def unwD (l : List UInt8) : List UInt8 := datS (pkH l) (pkD l)
def unwP (l : List UInt8) : PaG := ⟨(pkH l).sv, (pkH l).sb, (pkH l).dv, (pkH l).db, (seenG l).a, (pkH l).ttl, 0⟩
/-- what bytes are as a frame, or what is wrong with them. -/
def unwG (l : List UInt8) : PaG × TuD × Int :=
  if seenE l ≠ 0 then (zP, zT, seenE l)
  else if (seenG l).p ≠ 17 ∨ (seenG l).b ≠ 6081 then (zP, zT, 14)
  else if (parD (unwD l)).2 ≠ 0 then (zP, zT, (parD (unwD l)).2)
  else (unwP l, (parD (unwD l)).1, 0)
def UnR (w : World) (R : PaG × TuD × Int) (e : Ending) (w' : World) : Prop := ∃ P Y, e = .returned (.tuple #[.agg P, .agg Y, .int .i64 R.2.2]) ∧ PaV P R.1 ∧ TuF w.heap.size w' Y R.2.1 ∧ Below w.heap.size w w'
theorem unR_err {w w' : World} {R : PaG × TuD × Int} {E : Int} {ZP ZT : Array Value} (hP : ZP = (paL zP).toArray) (hT : ZT = tunA false 0 0 none 0 0 none 0 0) (hR : R = (zP, zT, E)) (hb : Below w.heap.size w w') : UnR w R (.returned (.tuple #[.agg ZP, .agg ZT, .int .i64 E])) w' := by
  subst hR hP hT; exact ⟨_, _, rfl, zP_ok, tuF_zero _ _, hb⟩
theorem gotS_sameG (h : Ip) (D : List UInt8) (ao ad : Option Addr) (co cd : Nat) : (gotS h D ao co ad cd).p = (gotS h D none 0 none 0).p ∧ (gotS h D ao co ad cd).ad = ad ∧ (gotS h D ao co ad cd).cd = cd ∧ (gotS h D ao co ad cd).nd = (datS h D).length := by
  unfold gotS datS hdS
  split <;> exact ⟨rfl, rfl, rfl, by rw [List.length_drop]; rfl⟩
theorem datS_p {h h' : Ip} (D : List UInt8) (e : h.p = h'.p) : datS h D = datS h' D := by unfold datS hdS; rw [e]
theorem datS_le (h : Ip) (D : List UInt8) : (datS h D).length ≤ D.length := by unfold datS; rw [List.length_drop]; omega
theorem pkD_le (l : List UInt8) : (pkD l).length ≤ l.length := by unfold pkD; split <;> (rw [List.length_drop]; omega)
theorem TuF.le {B B' : Nat} {w : World} {X : Array Value} {T : TuD} (h : TuF B w X T) (hb : B' ≤ B) : TuF B' w X T := by
  obtain ⟨A, c, l, I, k, e, hp, h1, h2, h3⟩ := h
  exact ⟨A, c, l, I, k, e, hp, fun a e => Nat.le_trans hb (h1 a e), fun x hx hl a e => Nat.le_trans hb (h2 x hx hl a e), fun hl a e => Nat.le_trans hb (h3 hl a e)⟩
theorem PaF.inv {w w' : World} {R : TuD × Int} {e : Ending} (h : PaF w R e w') : ∃ Y, e = .returned (.tuple #[.agg Y, .int .i64 R.2]) ∧ TuF w.heap.size w' Y R.1 ∧ Below w.heap.size w w' ∧ Y.size = 5 ∧ allOne Y = true ∧ Y.extract 0 5 = Y := by
  obtain ⟨Y, h1, h2, h3⟩ := h
  obtain ⟨A, c, l, I, k, hY, -⟩ := id h2
  exact ⟨Y, h1, h2, h3, by rw [hY]; rfl, by rw [hY]; exact tunA_one _ _ _ _ _ _ _ _ _, by rw [hY]; rfl⟩
set_option maxHeartbeats 8000000 in
theorem unwrapG_any (w : World) (B : Nat) (A : Option Addr) (l : List UInt8) (c : Nat) (hlc : l.length ≤ c) (hn : l.length ≤ 140737488351232) (hb : Byt w B A l) (hB : B ≤ w.heap.size) :
    Calls Tryz.prog 11 #[.slice A l.length c] w (UnR w (unwG l)) := by
  obtain ⟨R, hR⟩ : ∃ R, R = unwG l := ⟨_, rfl⟩
  rw [← hR]
  have HR := hide hR
  obtain ⟨ZP, hZP⟩ : ∃ Z, Z = (paL zP).toArray := ⟨_, rfl⟩
  obtain ⟨ZT, hZT⟩ : ∃ Z, Z = tunA false 0 0 none 0 0 none 0 0 := ⟨_, rfl⟩
  have hbp := built_gpath0
  have hbt := built_tun0
  rw [← hZP] at hbp
  rw [← hZT] at hbt
  have hZPs : ZP.size = 37 := by rw [hZP]; exact zP_ok.size
  have hZPo : allOne ZP = true := by rw [hZP]; exact zP_ok.one
  have hZTs : ZT.size = 5 := by rw [hZT]; rfl
  have hZTo : allOne ZT = true := by rw [hZT]; exact tunA_one _ _ _ _ _ _ _ _ _
  obtain ⟨W0, hW0, r0, z0, b0⟩ := alloc_tl w (.cells ZP 34)
  obtain ⟨W, hW, r1, z1, b1⟩ := alloc_tl W0 (.cells ZT 38)
  rw [z0] at r1
  have r0 := (b1.block w.heap.size (by omega)).trans r0
  have hbW : Below w.heap.size w W := b0.trans (b1.mono (by omega))
  have hz : W.heap.size = w.heap.size + 2 := by omega
  have HZP := hide hZP
  have HZT := hide hZT
  rw [hZP] at hW0
  rw [hZT] at hW
  have HW := hide (And.intro hW0 hW)
  have KP := hide (parse_any W W.heap.size A l c hlc (by omega) ((hb.below (hbW.mono hB)).more (Nat.le_trans hB hbW.size)) (Nat.le_refl _))
  have HKZ := hide (fun (w1 : World) (b : Below W.heap.size W w1) => (⟨(b.block w.heap.size (by omega)).trans r0, (b.block (w.heap.size + 1) (by omega)).trans r1⟩ : w1.heap[w.heap.size]? = some (.cells ZP 34 (0, 0)) ∧ w1.heap[w.heap.size + 1]? = some (.cells ZT 38 (0, 0))))
  have HB := hide hbW
  have HZ := hide hz
  have HN := hide hn
  have HL := hide hlc
  clear hZP hZT hW hW0 b0 b1 hbW hz hb hB r0 r1 z0 z1 hR hn hlc
  go_enter Tryz.func11, Tryz.ntmps11
  go_upto_region 1 with (fail)
  change Code.wp _ _ _ _ ((w.alloc (.cells (paL zP).toArray 34)).alloc (.cells (tunA false 0 0 none 0 0 none 0 0) 38))
  rw [HW.out.1, HW.out.2]
  go_wp2_with fail
  refine KP.out.mono ?_
  rintro e w2 ⟨X2, rfl, b2, he2, hok2⟩
  by_cases hE : pkE l = 0
  · obtain ⟨H, V2, g2, hDl, hsE, hsG, h1, h2, h3, h4, h5, h6⟩ := (hok2 hE).ipT
    rw [hE]
    have h2s := V2.size
    have h2o := V2.one
    have h20 := V2.x0
    have hof : Hid (seenE l = segE (pkH l) (pkD l)) := hide (by unfold seenE; rw [if_neg (fun e => e hE)])
    have b3 : Below w2.heap.size w2 (w2.alloc (.cells X2 51)) := (Below.refl _ _).alloc (Nat.le_refl _) _
    have r3 := heap_alloc_new w2 (.cells X2 51)
    have B3 : Hid (Below W.heap.size W (w2.alloc (.cells X2 51))) := hide ((b2.trans (b3.mono b2.size)))
    obtain ⟨G, hG⟩ : ∃ G, G = w2.heap.size := ⟨_, rfl⟩
    have HGG : Hid (W.heap.size ≤ G) := hide (by rw [hG]; exact b2.size)
    have hgb := (g2.1.below b3).more b3.size
    have hz3 : (w2.alloc (.cells X2 51)).heap.size = G + 1 := by rw [hG]; simp
    dsimp only
    go_upto_region 2 with (fail)
    rw [← hG] at r3 ⊢
    generalize w2.alloc (.cells X2 51) = w3 at r3 B3 hgb hz3 ⊢
    have hdl := pkD_le l
    have KS := parseS_any w3 X2 H V2 (pkD l) hgb hDl (by rw [← hDl]; exact g2.2.1) (by rw [← hDl]; have := HN.out; omega)
    have HKS := hide KS
    have HZ3 := hide hz3
    have x1 := V2.src
    have x2 := V2.dst
    have HR3 := hide r3
    have HDL := hide hdl
    have HLS := hide (And.intro V2.ls V2.ld)
    clear KS he2 hok2 b2 b3 hgb hz3 hG g2 hdl
    go_wp2_with fail
    refine HKS.out.mono ?_
    rintro e w4 hq
    obtain ⟨Y4, rfl, hYs, hYo, hY0⟩ := hq.val
    obtain ⟨_, e', b4, hne, hok⟩ := hq
    cases e'
    rw [hsE] at hne hok ⊢
    have B4 : Hid (Below W.heap.size W w4) := hide (B3.out.trans (b4.mono B3.out.size))
    have r4 := (b4.block G (by have := HZ3.out; omega)).trans HR3.out
    have b5 : Below w4.heap.size w4 (w4.alloc (.cells Y4 55)) := (Below.refl _ _).alloc (Nat.le_refl _) _
    have r5 := heap_alloc_new w4 (.cells Y4 55)
    have hGn : G < w4.heap.size := (Array.getElem?_eq_some_iff.1 r4).1
    have HGn := hide hGn
    have r5G := (b5.block G hGn).trans r4
    have B5 : Hid (Below W.heap.size W (w4.alloc (.cells Y4 55))) := hide (B4.out.trans (b5.mono B4.out.size))
    obtain ⟨z5, z5b⟩ := HKZ.out _ B5.out
    by_cases hE4 : segE (pkH l) (pkD l) = 0
    · obtain ⟨ao, co, ad, cd, V4, -, gD⟩ := hok hE4
      rw [hE4]
      have hSE0 : seenE l = 0 := hof.out.trans hE4
      have c0 := (V4.cells r5).c0
      have c1 := (V4.cells r5).c1
      have c2 := (V4.cells r5).c2
      have c10 := (V4.cells r5).c10
      have c36 := (V2.cells r5G).c36
      rw [hsG] at c0 c1 c2 c10
      obtain ⟨q1, q2, -⟩ := gotS_same (pkH l) (pkD l) ao ad co cd
      obtain ⟨q3, q4, q5, q6⟩ := gotS_sameG (pkH l) (pkD l) ao ad co cd
      rw [q3] at c0
      rw [q1] at c1
      rw [q2] at c2
      rw [q4, q5, q6] at c10
      rw [datS_p (pkD l) h5] at gD
      rw [h1, h2] at x1
      rw [h3, h4] at x2
      rw [h6] at c36
      have ht1 : (pkH l).sb.length = 16 := by rw [← h2]; exact HLS.out.1
      have ht2 : (pkH l).db.length = 16 := by rw [← h4]; exact HLS.out.2
      obtain ⟨D, hD⟩ : ∃ D, D = datS (pkH l) (pkD l) := ⟨_, rfl⟩
      have hDle := datS_le (pkH l) (pkD l)
      rw [← hD] at c10 gD hDle
      have hRR := HR.out
      unfold unwG at hRR
      rw [if_neg (fun e => e hSE0), show unwD l = D from hD.symm] at hRR
      obtain ⟨sp, hsp⟩ : ∃ x, x = (seenG l).p := ⟨_, rfl⟩
      obtain ⟨sb, hsb⟩ : ∃ x, x = (seenG l).b := ⟨_, rfl⟩
      obtain ⟨sa, hsa⟩ : ∃ x, x = (seenG l).a := ⟨_, rfl⟩
      obtain ⟨tt, htt⟩ : ∃ x, x = (pkH l).ttl := ⟨_, rfl⟩
      rw [show (gotS (pkH l) (pkD l) none 0 none 0).p = sp from hsp.symm] at c0
      rw [show (gotS (pkH l) (pkD l) none 0 none 0).b = sb from hsb.symm] at c2
      rw [show (gotS (pkH l) (pkD l) none 0 none 0).a = sa from hsa.symm] at c1
      rw [← htt] at c36
      rw [← hsp, ← hsb] at hRR
      obtain ⟨S, hS⟩ : ∃ S, S = (adL (pkH l).sv (pkH l).sb).toArray := ⟨_, rfl⟩
      obtain ⟨T, hT⟩ : ∃ S, S = (adL (pkH l).dv (pkH l).db).toArray := ⟨_, rfl⟩
      rw [← hS] at x1
      rw [← hT] at x2
      have k1 := built_gpG (pkH l).sv (pkH l).dv (pkH l).sb (pkH l).db sa tt ht1 ht2
      rw [← hS, ← hT] at k1
      obtain ⟨XP, hXP⟩ : ∃ XP, XP = (paL ⟨(pkH l).sv, (pkH l).sb, (pkH l).dv, (pkH l).db, sa, tt, 0⟩).toArray := ⟨_, rfl⟩
      rw [← hXP] at k1
      have VP : PaV XP (unwP l) := ⟨by rw [hXP, hsa, htt]; rfl, ht1, ht2⟩
      have hPs := VP.size
      have hPo := VP.one
      have HVP := hide VP
      have HRR := hide hRR
      obtain ⟨nD, hnD⟩ : ∃ n, n = D.length := ⟨_, rfl⟩
      have HGD : Hid (Byt (w4.alloc (.cells Y4 55)) (w4.alloc (.cells Y4 55)).heap.size ad D ∧ D.length ≤ cd ∧ (ad = none → cd = 0) ∧ D.length ≤ 140737488351232) := hide ⟨(gD.1.below b5).more b5.size, gD.2.1, gD.2.2.1, by have := HN.out; have := HDL.out; omega⟩
      rw [← hnD] at c10
      have HND := hide hnD
      obtain ⟨W5, hW5⟩ : ∃ W5, w4.alloc (.cells Y4 55) = W5 := ⟨_, rfl⟩
      have hg4 : w4.heap.size < W5.heap.size := by rw [← hW5]; simp
      rw [hW5] at r5 r5G B5 z5 z5b c0 c1 c2 c10 c36 HGD
      dsimp only
      go_upto_region 5 with (fail)
      try rw [hW5]
      clear hXP hS hT hsp hsb hsa htt hD hRR hok hne V4 q1 q2 q3 q4 q5 q6 VP gD ht1 ht2 hDle hnD b4 b5 r4 hGn HKS hsE hsG h1 h2 h3 h4 h5 h6 hE4 V2 hDl
      by_cases hpo : sp ≠ 17 ∨ sb ≠ 6081
      · have HE := hide (show R = (zP, zT, 14) by rw [HRR.out, if_pos hpo])
        have hcase : ((sp : Int) != 17) = true ∨ ((sp != 17) = false ∧ (sb != 6081) = true) := by
          by_cases h : sp = 17
          · exact .inr ⟨by simp [h], by simp; rcases hpo with h2 | h2; exact absurd h h2; exact h2⟩
          · exact .inl (by simpa using h)
        clear hpo
        rcases hcase with f1 | ⟨f1, f2⟩
        all_goals (
          have hp1 := setRow_heap W5 w.heap.size ZP ZP _ _ z5
          have hp2 : (W5.setRow w.heap.size ZP).heap[w.heap.size + 1]? = some (.cells ZT 38 (0, 0)) := ((setRow_grown W5 w.heap.size ZP).block _ (Array.getElem?_eq_some_iff.1 z5b).1 (by simp)).trans z5b
          go_wp2_with fail
          have hp3 := setRow_heap (W5.setRow w.heap.size ZP) (w.heap.size + 1) ZT ZT _ _ hp2
          have hp4 : ((W5.setRow w.heap.size ZP).setRow (w.heap.size + 1) ZT).heap[w.heap.size]? = some (.cells ZP 34 (0, 0)) := ((setRow_grown (W5.setRow w.heap.size ZP) (w.heap.size + 1) ZT).block _ (Array.getElem?_eq_some_iff.1 hp1).1 (by simp)).trans hp1
          refine bodyPost_ret (results_cells_tmp (fn := Tryz.f11) Tryz.results11 _ _ w.heap.size 34 ZP (0, 0) _ rfl hp4 Tryz.underlying34 rfl (by rw [hZPs]; exact info_gpath) (w.heap.size + 1) 38 ZT (0, 0) _ rfl hp3 Tryz.underlying38 rfl (by rw [hZTs]; exact info_tunG)) rfl ?_
          exact unR_err HZP.out HZT.out HE.out (below_setRow (below_setRow (HB.out.trans (B5.out.mono HB.out.size)) (Nat.le_refl _) _) (Nat.le_succ _) _))
      have hpo2 : sp = 17 ∧ sb = 6081 := by omega
      have hRR := HRR.out
      rw [if_neg hpo] at hRR
      obtain ⟨rfl, rfl⟩ := hpo2
      obtain ⟨OP, hOP⟩ : ∃ r, r = parD D := ⟨_, rfl⟩
      have KG := genParseF_any W5 ad cd D HGD.out.1 (by have := HGD.out.2.2.2; omega)
      rw [← hOP] at hRR KG
      rw [← HND.out] at KG
      have HRR := hide hRR
      have KG := hide KG
      have HG5 : Hid (w.heap.size + 1 < W5.heap.size) := hide (by have h1 := B5.out.size; have h2 := HZ.out; omega)
      have HG4 : Hid (G < W5.heap.size ∧ w4.heap.size < W5.heap.size) := hide ⟨(Array.getElem?_eq_some_iff.1 r5G).1, hg4⟩
      have HR5 := hide (And.intro r5 r5G)
      have HC := hide (And.intro c1 c36)
      clear hRR hOP hpo hg4 hW5
      go_wp2_with fail
      refine KG.out.mono ?_
      rintro e w6 hq
      obtain ⟨Y6, rfl, tg6, b6, hTs, hTo, hT0⟩ := hq.inv
      clear hq
      have r6 := (b6.block w4.heap.size HG4.out.2).trans HR5.out.1
      have r6G := (b6.block G HG4.out.1).trans HR5.out.2
      have d1 := (World.cell?_of_block (w := W5) (w' := w6) (a := ⟨w4.heap.size, 1, none⟩) (b6.block w4.heap.size HG4.out.2)).trans HC.out.1
      have d36 := (World.cell?_of_block (w := W5) (w' := w6) (a := ⟨G, 36, none⟩) (b6.block G HG4.out.1)).trans HC.out.2
      have B6 : Hid (Below W.heap.size W w6) := hide (B5.out.trans (b6.mono B5.out.size))
      obtain ⟨z6, z6b⟩ := HKZ.out _ B6.out
      have HTG := hide tg6
      obtain ⟨OT, OE⟩ := OP
      clear b6 r5 r5G c0 c1 c2 c10 c36 z5 z5b KG tg6
      dsimp only
      by_cases hoe : OE = 0
      · subst hoe
        have HE := hide (show R = (unwP l, OT, 0) by rw [HRR.out, if_neg (by simp)])
        have HB7 : Hid (Below w.heap.size w (w6.alloc (.cells Y6 38))) := hide (HB.out.trans ((B6.out.alloc B6.out.size _).mono HB.out.size))
        have HZ7 := hide (HKZ.out _ (B6.out.alloc B6.out.size (.cells Y6 38)))
        have l1 : LtN w.heap.size w6.heap.size := (Array.getElem?_eq_some_iff.1 z6).1
        have l2 : LtN (w.heap.size + 1) w6.heap.size := (Array.getElem?_eq_some_iff.1 z6b).1
        have l3 : LtN G w6.heap.size := (Array.getElem?_eq_some_iff.1 r6G).1
        have l4 : LtN w4.heap.size w6.heap.size := (Array.getElem?_eq_some_iff.1 r6).1
        have b7 : Below w6.heap.size w6 (w6.alloc (.cells Y6 38)) := (Below.refl _ _).alloc (Nat.le_refl _) _
        have r7G := (b7.block G l3).trans r6G
        have r7t := heap_alloc_new w6 (.cells Y6 38)
        have r7 := (b7.block w4.heap.size l4).trans r6
        have t1 := (World.cell?_alloc_lt w6 (.cells Y6 38) ⟨w4.heap.size, 1, none⟩ l4).trans d1
        have t36 := (World.cell?_alloc_lt w6 (.cells Y6 38) ⟨G, 36, none⟩ l3).trans d36
        have HTG7 := hide (HTG.out.below b7)
        obtain ⟨z7, z7b⟩ := HZ7.out
        obtain ⟨W7, hW7⟩ : ∃ W7, w6.alloc (.cells Y6 38) = W7 := ⟨_, rfl⟩
        rw [hW7] at HB7 HZ7 r7G r7 r7t t1 t36 HTG7 z7 z7b
        clear b7 d1 d36 r6 r6G z6 z6b
        go_upto_region 10 with (fail)
        try rw [hW7]
        clear hW7
        have hgw : w.heap.size + 1 < G ∧ w.heap.size + 1 < w4.heap.size ∧ w.heap.size + 1 < w6.heap.size := by have h1 := HGG.out; have h2 := HZ.out; have h3 : G < w4.heap.size := HGn.out; have h4 : w4.heap.size < w6.heap.size := l4; omega
        have hS7 : W7.heap[G]? = some (.cells X2 51 (0, 0)) ∧ W7.heap[w4.heap.size]? = some (.cells Y4 55 (0, 0)) ∧ W7.heap[w6.heap.size]? = some (.cells Y6 38 (0, 0)) ∧ W7.cell? ⟨w4.heap.size, 1, none⟩ = some (.int .i64 sa) ∧ W7.cell? ⟨G, 36, none⟩ = some (.int .i64 tt) := ⟨r7G, r7, r7t, t1, t36⟩
        have HK8 := hide (fun (X Y : World) (g : Nat) (C : Array Value) (hg : g ≤ w.heap.size + 1) (e : Y.heap = (X.setRow g C).heap) (h : X.heap[G]? = some (.cells X2 51 (0, 0)) ∧ X.heap[w4.heap.size]? = some (.cells Y4 55 (0, 0)) ∧ X.heap[w6.heap.size]? = some (.cells Y6 38 (0, 0)) ∧ X.cell? ⟨w4.heap.size, 1, none⟩ = some (.int .i64 sa) ∧ X.cell? ⟨G, 36, none⟩ = some (.int .i64 tt)) => (by
          obtain ⟨h1, h2, h3, h4, h5⟩ := h
          have k : ∀ i, i < X.heap.size → g ≠ i → Y.heap[i]? = X.heap[i]? := fun i hi hne => by rw [e]; exact (setRow_grown X g C).block i hi (by simp; omega)
          have k1 := k G (Array.getElem?_eq_some_iff.1 h1).1 (by omega)
          have k2 := k w4.heap.size (Array.getElem?_eq_some_iff.1 h2).1 (by omega)
          have k3 := k w6.heap.size (Array.getElem?_eq_some_iff.1 h3).1 (by omega)
          exact ⟨k1.trans h1, k2.trans h2, k3.trans h3, (World.cell?_of_block (a := ⟨w4.heap.size, 1, none⟩) k2).trans h4, (World.cell?_of_block (a := ⟨G, 36, none⟩) k1).trans h5⟩ : Y.heap[G]? = some (.cells X2 51 (0, 0)) ∧ Y.heap[w4.heap.size]? = some (.cells Y4 55 (0, 0)) ∧ Y.heap[w6.heap.size]? = some (.cells Y6 38 (0, 0)) ∧ Y.cell? ⟨w4.heap.size, 1, none⟩ = some (.int .i64 sa) ∧ Y.cell? ⟨G, 36, none⟩ = some (.int .i64 tt)))
        have HS7 := hide hS7
        clear hgw
        have hp1 := setRow_heap W7 w.heap.size ZP XP _ _ z7
        have hp2 : (W7.setRow w.heap.size XP).heap[w.heap.size + 1]? = some (.cells ZT 38 (0, 0)) := ((setRow_grown W7 w.heap.size XP).block _ (Array.getElem?_eq_some_iff.1 z7b).1 (by simp)).trans z7b
        go_upto_region 12 with (fail)
        refine wp_region_upZ (S := (fun w' => w'.heap[G]? = some (.cells X2 51 (0, 0)) ∧ w'.heap[w4.heap.size]? = some (.cells Y4 55 (0, 0)) ∧ w'.heap[w6.heap.size]? = some (.cells Y6 38 (0, 0)) ∧ w'.cell? ⟨w4.heap.size, 1, none⟩ = some (.int .i64 sa) ∧ w'.cell? ⟨G, 36, none⟩ = some (.int .i64 tt))) 12 (by kernel_rfl) hS7 (fun hHeld => ?_)
        refine upZ_take (i := 0) (oi := ⟨some 50, _, _, _, _, _⟩) (v := ?_) rfl (by kernel_rfl) (by kernel_rfl) (by kernel_rfl) (by kernel_rfl) (fun _ _ _ h => h) (Or.inl ⟨by rfl, ?_⟩) hHeld ?_
        rotate_left
        · (intro w' hSw; (try dsimp only at hSw); go_split_ands; go_simp; try with_reducible rfl)
        (try simp only [Act.put, List.setIfInBounds_toArray, List.set_cons_zero, List.set_cons_succ])
        refine upZ_take (i := 1) (oi := ⟨some 51, _, _, _, _, _⟩) (v := ?_) rfl (by kernel_rfl) (by kernel_rfl) (by kernel_rfl) (by kernel_rfl) (fun _ _ _ h => h) (Or.inl ⟨by rfl, ?_⟩) hHeld ?_
        rotate_left
        · (intro w' hSw; (try dsimp only at hSw); go_split_ands; go_simp; try with_reducible rfl)
        (try simp only [Act.put, List.setIfInBounds_toArray, List.set_cons_zero, List.set_cons_succ])
        refine upZ_take (i := 2) (oi := ⟨some 52, _, _, _, _, _⟩) (v := ?_) rfl (by kernel_rfl) (by kernel_rfl) (by kernel_rfl) (by kernel_rfl) (fun _ _ _ h => h) (Or.inl ⟨by rfl, ?_⟩) hHeld ?_
        rotate_left
        · (intro w' hSw; (try dsimp only at hSw); go_split_ands; go_simp; try with_reducible rfl)
        (try simp only [Act.put, List.setIfInBounds_toArray, List.set_cons_zero, List.set_cons_succ])
        refine upZ_take (i := 3) (oi := ⟨some 53, _, _, _, _, _⟩) (v := ?_) rfl (by kernel_rfl) (by kernel_rfl) (by kernel_rfl) (by kernel_rfl) (fun _ _ _ h => h) (Or.inl ⟨by rfl, ?_⟩) hHeld ?_
        rotate_left
        · (intro w' hSw; (try dsimp only at hSw); go_split_ands; go_simp; try with_reducible rfl)
        (try simp only [Act.put, List.setIfInBounds_toArray, List.set_cons_zero, List.set_cons_succ])
        refine upZ_take (i := 4) (oi := ⟨some 54, _, _, _, _, _⟩) (v := ?_) rfl (by kernel_rfl) (by kernel_rfl) (by kernel_rfl) (by kernel_rfl) (fun _ _ _ h => h) (Or.inl ⟨by rfl, ?_⟩) hHeld ?_
        rotate_left
        · (intro w' hSw; (try dsimp only at hSw); go_split_ands; go_simp; try with_reducible rfl)
        (try simp only [Act.put, List.setIfInBounds_toArray, List.set_cons_zero, List.set_cons_succ])
        refine upZ_take (i := 5) (oi := ⟨some 55, _, _, _, _, _⟩) (v := ?_) rfl (by kernel_rfl) (by kernel_rfl) (by kernel_rfl) (by kernel_rfl) (fun _ _ _ h => h) (Or.inl ⟨by rfl, ?_⟩) hHeld ?_
        rotate_left
        · (intro w' hSw; (try dsimp only at hSw); go_split_ands; go_simp; try with_reducible rfl)
        (try simp only [Act.put, List.setIfInBounds_toArray, List.set_cons_zero, List.set_cons_succ])
        refine upZ_take (i := 6) (oi := ⟨some 56, _, _, _, _, _⟩) (v := ?_) rfl (by kernel_rfl) (by kernel_rfl) (by kernel_rfl) (by kernel_rfl) (fun _ _ _ h => h) (Or.inl ⟨by rfl, ?_⟩) hHeld ?_
        rotate_left
        · (intro w' hSw; (try dsimp only at hSw); go_split_ands; go_simp; try with_reducible rfl)
        (try simp only [Act.put, List.setIfInBounds_toArray, List.set_cons_zero, List.set_cons_succ])
        refine upZ_take (i := 7) (oi := ⟨some 57, _, _, _, _, _⟩) (v := ?_) rfl (by kernel_rfl) (by kernel_rfl) (by kernel_rfl) (by kernel_rfl) (fun _ _ _ h => h) (Or.inl ⟨by rfl, ?_⟩) hHeld ?_
        rotate_left
        · (intro w' hSw; (try dsimp only at hSw); go_split_ands; go_simp; try with_reducible rfl)
        (try simp only [Act.put, List.setIfInBounds_toArray, List.set_cons_zero, List.set_cons_succ])
        refine upZ_take (i := 8) (oi := ⟨some 58, _, _, _, _, _⟩) (v := ?_) rfl (by kernel_rfl) (by kernel_rfl) (by kernel_rfl) (by kernel_rfl) (fun _ _ _ h => h) (Or.inl ⟨by rfl, ?_⟩) hHeld ?_
        rotate_left
        · (intro w' hSw; (try dsimp only at hSw); go_split_ands; go_simp; try with_reducible rfl)
        (try simp only [Act.put, List.setIfInBounds_toArray, List.set_cons_zero, List.set_cons_succ])
        refine upZ_take (i := 9) (oi := ⟨some 59, _, _, _, _, _⟩) (v := ?_) rfl (by kernel_rfl) (by kernel_rfl) (by kernel_rfl) (by kernel_rfl) (fun _ _ _ h => h) (Or.inl ⟨by rfl, ?_⟩) hHeld ?_
        rotate_left
        · (intro w' hSw; (try dsimp only at hSw); go_split_ands; go_simp; try with_reducible rfl)
        (try simp only [Act.put, List.setIfInBounds_toArray, List.set_cons_zero, List.set_cons_succ])
        refine upZ_only (i := 10) (o := ⟨none, _, _, _, _, _⟩) (by kernel_rfl) rfl rfl (fun K hK => ?_)
        clear hHeld
        go_simp
        refine hK.out _ _ (HK8.out W7 _ w.heap.size XP (Nat.le_succ _) rfl HS7.out) (fun hHeld => ?_)
        clear hK K
        (try simp only [Act.put, List.setIfInBounds_toArray, List.set_cons_zero, List.set_cons_succ])
        refine upZ_only (i := 11) (o := ⟨none, _, _, _, _, _⟩) (by kernel_rfl) rfl rfl (fun K hK => ?_)
        clear hHeld
        go_simp
        refine hK.out _ _ (HK8.out (W7.setRow w.heap.size XP) _ (w.heap.size + 1) Y6 (Nat.le_refl _) rfl (HK8.out W7 (W7.setRow w.heap.size XP) w.heap.size XP (Nat.le_succ _) rfl HS7.out)) (fun hHeld => ?_)
        clear hK K
        (try simp only [Act.put, List.setIfInBounds_toArray, List.set_cons_zero, List.set_cons_succ])
        refine upZ_last (o := ⟨some 4, _, _, _, _, _⟩) (by kernel_rfl) rfl (by kernel_rfl) (fun K hK => ?_)
        clear hHeld
        go_simp
        refine hK.out _ _ ?_
        clear hK K
        (try simp only [Act.put, List.setIfInBounds_toArray, List.set_cons_zero, List.set_cons_succ])
        go_wp2_with fail
        have hp3 := setRow_heap (W7.setRow w.heap.size XP) (w.heap.size + 1) ZT Y6 _ _ hp2
        have hp4 : ((W7.setRow w.heap.size XP).setRow (w.heap.size + 1) Y6).heap[w.heap.size]? = some (.cells XP 34 (0, 0)) := ((setRow_grown (W7.setRow w.heap.size XP) (w.heap.size + 1) Y6).block _ (Array.getElem?_eq_some_iff.1 hp1).1 (by simp)).trans hp1
        have hd4 : ((W7.setRow w.heap.size XP).setRow (w.heap.size + 1) Y6).drew.heap[w.heap.size]? = some (.cells XP 34 (0, 0)) := hp4
        have hd3 : ((W7.setRow w.heap.size XP).setRow (w.heap.size + 1) Y6).drew.heap[w.heap.size + 1]? = some (.cells Y6 38 (0, 0)) := hp3
        refine bodyPost_ret (results_cells_tmp (fn := Tryz.f11) Tryz.results11 _ _ w.heap.size 34 XP (0, 0) _ rfl hd4 Tryz.underlying34 rfl (by rw [hPs]; exact info_gpath) (w.heap.size + 1) 38 Y6 (0, 0) _ rfl hd3 Tryz.underlying38 rfl (by rw [hTs]; exact info_tunG)) rfl ?_
        have gs1 := grown_rowT W7 w.heap.size XP
        have gs2 := grown_rowT (W7.setRow w.heap.size XP) (w.heap.size + 1) Y6
        rw [HE.out]
        exact ⟨XP, Y6, rfl, HVP.out, (((HTG7.out.grown gs1 (by have := HG5.out; omega)).grown gs2 (by have := HG5.out; omega)).le (by have := HG5.out; omega)).below ((Below.refl _ _).drew), (below_setRow (below_setRow HB7.out (Nat.le_refl _) _) (Nat.le_succ _) _).drew⟩
      · have hne : (OE != 0) = true := by simpa using hoe
        have HE := hide (show R = (zP, zT, OE) by rw [HRR.out, if_pos hoe])
        have HB7 : Hid (Below w.heap.size w (w6.alloc (.cells Y6 38))) := hide (HB.out.trans ((B6.out.alloc B6.out.size _).mono HB.out.size))
        obtain ⟨z7, z7b⟩ := HKZ.out _ (B6.out.alloc B6.out.size (.cells Y6 38))
        obtain ⟨W7, hW7⟩ : ∃ W7, w6.alloc (.cells Y6 38) = W7 := ⟨_, rfl⟩
        rw [hW7] at HB7 z7 z7b
        clear hoe
        go_upto_region 10 with (fail)
        try rw [hW7]
        have hp1 := setRow_heap W7 w.heap.size ZP ZP _ _ z7
        have hp2 : (W7.setRow w.heap.size ZP).heap[w.heap.size + 1]? = some (.cells ZT 38 (0, 0)) := ((setRow_grown W7 w.heap.size ZP).block _ (Array.getElem?_eq_some_iff.1 z7b).1 (by simp)).trans z7b
        go_wp2_with fail
        have hp3 := setRow_heap (W7.setRow w.heap.size ZP) (w.heap.size + 1) ZT ZT _ _ hp2
        have hp4 : ((W7.setRow w.heap.size ZP).setRow (w.heap.size + 1) ZT).heap[w.heap.size]? = some (.cells ZP 34 (0, 0)) := ((setRow_grown (W7.setRow w.heap.size ZP) (w.heap.size + 1) ZT).block _ (Array.getElem?_eq_some_iff.1 hp1).1 (by simp)).trans hp1
        refine bodyPost_ret (results_cells_tmp (fn := Tryz.f11) Tryz.results11 _ _ w.heap.size 34 ZP (0, 0) _ rfl hp4 Tryz.underlying34 rfl (by rw [hZPs]; exact info_gpath) (w.heap.size + 1) 38 ZT (0, 0) _ rfl hp3 Tryz.underlying38 rfl (by rw [hZTs]; exact info_tunG)) rfl ?_
        exact unR_err HZP.out HZT.out HE.out (below_setRow (below_setRow (HB7.out) (Nat.le_refl _) _) (Nat.le_succ _) _)
    · have hEb : (segE (pkH l) (pkD l) != 0) = true := by simpa using hE4
      have HE : Hid (R = (zP, zT, segE (pkH l) (pkD l))) := hide (by rw [HR.out]; unfold unwG; rw [if_pos (by rw [hof.out]; exact hE4), hof.out])
      obtain ⟨E, hEE⟩ : ∃ E, E = segE (pkH l) (pkD l) := ⟨_, rfl⟩
      rw [← hEE] at hEb HE ⊢
      obtain ⟨W5, hW5⟩ : ∃ W5, w4.alloc (.cells Y4 55) = W5 := ⟨_, rfl⟩
      rw [hW5] at B5 z5 z5b
      clear hok hne hE4 hEE r5G r4 hGn x1 x2 r5
      dsimp only
      go_upto_region 5 with (fail)
      try rw [hW5]
      have hp1 := setRow_heap W5 w.heap.size ZP ZP _ _ z5
      have hp2 : (W5.setRow w.heap.size ZP).heap[w.heap.size + 1]? = some (.cells ZT 38 (0, 0)) := ((setRow_grown W5 w.heap.size ZP).block _ (Array.getElem?_eq_some_iff.1 z5b).1 (by simp)).trans z5b
      go_wp2_with fail
      have hp3 := setRow_heap (W5.setRow w.heap.size ZP) (w.heap.size + 1) ZT ZT _ _ hp2
      have hp4 : ((W5.setRow w.heap.size ZP).setRow (w.heap.size + 1) ZT).heap[w.heap.size]? = some (.cells ZP 34 (0, 0)) := ((setRow_grown (W5.setRow w.heap.size ZP) (w.heap.size + 1) ZT).block _ (Array.getElem?_eq_some_iff.1 hp1).1 (by simp)).trans hp1
      refine bodyPost_ret (results_cells_tmp (fn := Tryz.f11) Tryz.results11 _ _ w.heap.size 34 ZP (0, 0) _ rfl hp4 Tryz.underlying34 rfl (by rw [hZPs]; exact info_gpath) (w.heap.size + 1) 38 ZT (0, 0) _ rfl hp3 Tryz.underlying38 rfl (by rw [hZTs]; exact info_tunG)) rfl ?_
      exact unR_err HZP.out HZT.out HE.out (below_setRow (below_setRow (HB.out.trans (B5.out.mono HB.out.size)) (Nat.le_refl _) _) (Nat.le_succ _) _)
  · have hX := he2 hE
    have V2 : IpV X2 (nIp 0 0 0 0 false) := by rw [hX]; exact nIp_ok _ _ _ _ _
    have h2s := V2.size
    have h2o := V2.one
    have hEb : (pkE l != 0) = true := by simpa using hE
    have HE : Hid (R = (zP, zT, pkE l)) := hide (by rw [HR.out]; unfold unwG seenE; rw [if_pos hE, if_pos hE])
    obtain ⟨E, hEE⟩ : ∃ E, E = pkE l := ⟨_, rfl⟩
    rw [← hEE] at hEb HE ⊢
    have B3 : Hid (Below W.heap.size W (w2.alloc (.cells X2 51))) := hide ((b2.trans (((Below.refl _ _).alloc (Nat.le_refl _) _).mono b2.size)))
    obtain ⟨z3, z3b⟩ := HKZ.out _ B3.out
    obtain ⟨W3, hW3⟩ : ∃ W3, w2.alloc (.cells X2 51) = W3 := ⟨_, rfl⟩
    rw [hW3] at B3 z3 z3b
    clear he2 hok2 hE hX hEE
    dsimp only
    go_upto_region 2 with (fail)
    try rw [hW3]
    have hp1 := setRow_heap W3 w.heap.size ZP ZP _ _ z3
    have hp2 : (W3.setRow w.heap.size ZP).heap[w.heap.size + 1]? = some (.cells ZT 38 (0, 0)) := ((setRow_grown W3 w.heap.size ZP).block _ (Array.getElem?_eq_some_iff.1 z3b).1 (by simp)).trans z3b
    go_wp2_with fail
    have hp3 := setRow_heap (W3.setRow w.heap.size ZP) (w.heap.size + 1) ZT ZT _ _ hp2
    have hp4 : ((W3.setRow w.heap.size ZP).setRow (w.heap.size + 1) ZT).heap[w.heap.size]? = some (.cells ZP 34 (0, 0)) := ((setRow_grown (W3.setRow w.heap.size ZP) (w.heap.size + 1) ZT).block _ (Array.getElem?_eq_some_iff.1 hp1).1 (by simp)).trans hp1
    refine bodyPost_ret (results_cells_tmp (fn := Tryz.f11) Tryz.results11 _ _ w.heap.size 34 ZP (0, 0) _ rfl hp4 Tryz.underlying34 rfl (by rw [hZPs]; exact info_gpath) (w.heap.size + 1) 38 ZT (0, 0) _ rfl hp3 Tryz.underlying38 rfl (by rw [hZTs]; exact info_tunG)) rfl ?_
    exact unR_err HZP.out HZT.out HE.out (below_setRow (below_setRow (HB.out.trans (B3.out.mono HB.out.size)) (Nat.le_refl _) _) (Nat.le_succ _) _)
end Go.Proofs.YtihakjcccbionaaGreatDoor

end
section
/-
  Two boxes laid at once; whether two ways are one.
-/
namespace Go.Proofs.YtihakjcccbionaaGreatDoor
open Go.RowKit
set_option maxRecDepth 100000
set_option linter.unusedVariables false
set_option linter.unusedSimpArgs false

theorem setRow_alloc_oldU (W : World) (o : Obj) (g : Nat) (X : Array Value) (h : g < W.heap.size) : (W.alloc o).setRow g X = (W.setRow g X).alloc o := by
  unfold World.setRow World.alloc
  congr 1
  apply Array.ext_getElem?
  intro i
  simp only [Array.getElem?_modify, Array.getElem?_push, Array.size_modify]
  by_cases hi : i = W.heap.size
  · subst hi; simp; omega
  · simp [hi]
theorem two_boxesU (w : World) : (∀ o : Obj, LtN w.heap.size (w.alloc o).heap.size) ∧ ∀ (o o' : Obj) (X : Array Value), ((w.alloc o).alloc o').setRow w.heap.size X = ((w.alloc o).setRow w.heap.size X).alloc o' :=
  ⟨fun o => by show w.heap.size < _; simp, fun o o' X => setRow_alloc_oldU _ _ _ _ (by simp)⟩
theorem part_adG (X S : Array Value) (o : Nat) (hs : X.size = 37) (ho : o + 17 ≤ 37) (h1 : X.extract o (o + 17) = S) (w : World) : (part 24 X o).run Tryz.prog w = .ok (.agg S) w := by
  have e1 : (isAgg 24).run Tryz.prog w = .ok true w := by kernel_rfl
  simp [part, e1, h1]
theorem part_iG (X : Array Value) (o : Nat) (n : Int) (h0 : X[o]? = some (.int .i64 n)) (w : World) : (part 3 X o).run Tryz.prog w = .ok (.int .i64 n) w := by
  have hu := Tryz.underlying3
  simp [part, isAgg, run_underlying hu, h0]
theorem fields_gw : (Tryz.prog.fieldsOf 26).toList.map (fun f => (f.type, f.offset, f.name)) = [(24, 0, "Src"), (24, 17, "Dst"), (3, 34, "Port"), (3, 35, "Ttl"), (3, 36, "Mtu")] := by kernel_rfl
theorem under_gw : Tryz.prog.underlying 26 = some (.struct (Tryz.prog.fieldsOf 26)) := by kernel_rfl
theorem held_gw : Tryz.prog.stoodInHeld 26 = false := by kernel_rfl
theorem list_fiveG {α β : Type} {g : α → β} {a b c d e : β} : ∀ {L : List α}, L.map g = [a, b, c, d, e] → ∃ x y z u v, L = [x, y, z, u, v] ∧ g x = a ∧ g y = b ∧ g z = c ∧ g u = d ∧ g v = e
  | [x, y, z, u, v], h => by simp at h; exact ⟨x, y, z, u, v, rfl, h⟩
  | [], h => by simp at h
  | [_], h => by simp at h
  | [_, _], h => by simp at h
  | [_, _, _], h => by simp at h
  | [_, _, _, _], h => by simp at h
  | _ :: _ :: _ :: _ :: _ :: _ :: _, h => by simp at h
theorem PaV.at {X : Array Value} {p : PaG} (x : PaV X p) : X[34]? = some (.int .i64 p.port) ∧ X[35]? = some (.int .i64 p.ttl) ∧ X[36]? = some (.int .i64 p.mtu) := by
  have e : ∀ j, X[34 + j]? = [Value.int .i64 p.port, .int .i64 p.ttl, .int .i64 p.mtu][j]? := fun j => by
    rw [x.eq, List.getElem?_toArray]
    unfold paL
    rw [List.getElem?_append_right (by rw [lenI_adL x.ls]; omega), List.getElem?_append_right (by rw [lenI_adL x.ls, lenI_adL x.ld]; omega), lenI_adL x.ls, lenI_adL x.ld, show 34 + j - 17 - 17 = j by omega]
  exact ⟨e 0, e 1, e 2⟩
set_option maxHeartbeats 1000000 in
theorem equalIn_gw (d : Nat) (w : World) (X : Array Value) (p : PaG) (h : PaV X p) : (Op.equalIn (d + 5) 26 (.agg X) (.agg X)).run Tryz.prog w = .ok true w := by
  rw [run_equalIn_struct w (d + 4) 26 X X under_gw held_gw]
  obtain ⟨f0, f1, f2, f3, f4, hfs, e0, e1, e2, e3, e4⟩ := list_fiveG fields_gw
  rw [hfs]
  simp only [Prod.mk.injEq] at e0 e1 e2 e3 e4
  obtain ⟨t0, o0, n0⟩ := e0
  obtain ⟨t1, o1, n1⟩ := e1
  obtain ⟨t2, o2, n2⟩ := e2
  obtain ⟨t3, o3, n3⟩ := e3
  obtain ⟨t4, o4, n4⟩ := e4
  simp only [Op.eqFields, t0, o0, n0, t1, o1, n1, t2, o2, n2, t3, o3, n3, t4, o4, n4]
  rw [if_pos (by decide), if_pos (by decide), if_pos (by decide), if_pos (by decide), if_pos (by decide)]
  obtain ⟨a3, a4, a5⟩ := h.at
  have E1 := equalIn_ad d w _ _ _ _ _ _ (AdV.mk' (v := p.sv) h.ls) (AdV.mk' (v := p.sv) h.ls)
  have E2 := equalIn_ad d w _ _ _ _ _ _ (AdV.mk' (v := p.dv) h.ld) (AdV.mk' (v := p.dv) h.ld)
  have E3 := run_equalIn_int (P := Tryz.prog) w (d + 3) 3 .i64 .i64 p.port p.port Tryz.underlying3
  have E4 := run_equalIn_int (P := Tryz.prog) w (d + 3) 3 .i64 .i64 p.ttl p.ttl Tryz.underlying3
  have E5 := run_equalIn_int (P := Tryz.prog) w (d + 3) 3 .i64 .i64 p.mtu p.mtu Tryz.underlying3
  have P1 := part_adG X _ 0 h.size (by decide) h.src w
  have P2 := part_adG X _ 17 h.size (by decide) h.dst w
  simp only [Sem.run_bind, P1, Result.andThen_ok, E1]
  simp only [beq_self_eq_true, Bool.and_self, Bool.not_true, Bool.false_eq_true, if_false, Bool.true_and, Sem.run_bind, P2, Result.andThen_ok, E2]
  simp only [beq_self_eq_true, Bool.and_self, Bool.not_true, Bool.false_eq_true, if_false, Sem.run_bind, part_iG X _ _ a3, Result.andThen_ok, E3]
  simp only [beq_self_eq_true, Bool.not_true, Bool.false_eq_true, if_false, Sem.run_bind, part_iG X _ _ a4, Result.andThen_ok, E4]
  simp only [beq_self_eq_true, Bool.not_true, Bool.false_eq_true, if_false, Sem.run_bind, part_iG X _ _ a5, Result.andThen_ok, E5]
  simp
theorem eql_gw (w : World) (X : Array Value) (p : PaG) (h : PaV X p) : (binOp .eql 26 (.agg X) (.agg X)).run Tryz.prog w = .ok (.bool true) w := by
  rw [run_eql_struct, equalIn_gw 9995 w X p h]
  rfl
theorem TuG.sizeU {w : World} {X : Array Value} {T : TuD} (h : TuG w X T) : X.size = 5 := by obtain ⟨_, _, _, _, _, rfl, _⟩ := h; rfl
theorem TuG.oneU {w : World} {X : Array Value} {T : TuD} (h : TuG w X T) : allOne X = true := by obtain ⟨_, _, _, _, _, rfl, _⟩ := h; exact tunA_one _ _ _ _ _ _ _ _ _
theorem TuG.x0U {w : World} {X : Array Value} {T : TuD} (h : TuG w X T) : X.extract 0 5 = X := by obtain ⟨_, _, _, _, _, rfl, _⟩ := h; rfl

end Go.Proofs.YtihakjcccbionaaGreatDoor

end
