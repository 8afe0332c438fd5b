import Derived.Test.YtihakjcccbionaaGreatDoorMgr
import Derived.Test.YtihakjcccbionaaGreatDoorMkn
import Derived.Test.YtihakjcccbionaaGreatDoorMif
import Derived.Test.YtihakjcccbionaaGreatDoorIv
import Derived.Test.YtihakjcccbionaaGreatDoorMku
import Derived.Test.YtihakjcccbionaaGreatDoorGnm
import Derived.Test.YtihakjcccbionaaGreatDoorJm
section
/-
  A way, in memory; a frame of a tunnel, in mathematics.
-/
namespace Go.Proofs.YtihakjcccbionaaGreatDoor
open Go.RowKit
set_option maxRecDepth 100000
set_option linter.unusedVariables false
set_option linter.unusedSimpArgs false

/-- a way: from where, to where, its port, how long it lives, how many bytes a frame may have. -/
structure PaG where
  sv : Bool
  sb : List UInt8
  dv : Bool
  db : List UInt8
  port : Int
  ttl : Int
  mtu : Int
def paL (p : PaG) : List Value := adL p.sv p.sb ++ (adL p.dv p.db ++ [.int .i64 p.port, .int .i64 p.ttl, .int .i64 p.mtu])
structure PaV (X : Array Value) (p : PaG) : Prop where
  eq : X = (paL p).toArray
  ls : p.sb.length = 16
  ld : p.db.length = 16
section
variable {X : Array Value} {p : PaG}
theorem PaV.size (x : PaV X p) : X.size = 37 := by rw [x.eq]; simp [paL, lenI_adL x.ls, lenI_adL x.ld]
theorem PaV.x0 (x : PaV X p) : X.extract 0 37 = X := by rw [← x.size]; simp
theorem paL_one (p : PaG) : ∀ v ∈ paL p, v.oneCell' = true := by
  intro v hv
  simp only [paL, adL, List.mem_append, List.mem_cons, List.mem_map, List.not_mem_nil, or_false] at hv
  rcases hv with (rfl | ⟨u, -, rfl⟩) | (rfl | ⟨u, -, rfl⟩) | rfl | rfl | rfl <;> rfl
theorem PaV.one (x : PaV X p) : allOne X = true := by
  rw [x.eq]
  unfold allOne
  rw [List.all_toArray]
  simpa using paL_one p
theorem PaV.src (x : PaV X p) : X.extract 0 17 = (adL p.sv p.sb).toArray := by
  rw [x.eq, List.extract_toArray]
  congr 1
  simp only [paL, List.extract_eq_take_drop, List.drop_zero]
  rw [List.take_append_of_le_length (by rw [lenI_adL x.ls]; decide), List.take_of_length_le (by rw [lenI_adL x.ls]; decide)]
theorem PaV.dst (x : PaV X p) : X.extract 17 34 = (adL p.dv p.db).toArray := by
  rw [x.eq, List.extract_toArray]
  congr 1
  simp only [paL, List.extract_eq_take_drop]
  rw [List.drop_left' (lenI_adL x.ls), List.take_append_of_le_length (by rw [lenI_adL x.ld]; decide), List.take_of_length_le (by rw [lenI_adL x.ld]; decide)]
theorem PaV.cells (x : PaV X p) {w : World} {g : Nat} {ty : TypeId} (hg : w.heap[g]? = some (.cells X ty (0, 0))) : w.cell? ⟨g, 0, none⟩ = some (.bool p.sv) ∧ w.cell? ⟨g, 34, none⟩ = some (.int .i64 p.port) ∧ w.cell? ⟨g, 35, none⟩ = some (.int .i64 p.ttl) ∧ w.cell? ⟨g, 36, none⟩ = some (.int .i64 p.mtu) := by
  have h : ∀ j, w.cell? ⟨g, j, none⟩ = X[j]? := fun j => cell_of_row w g j X ty (0, 0) hg
  have e : ∀ j, X[34 + j]? = [Value.int .i64 p.port, .int .i64 p.ttl, .int .i64 p.mtu][j]? := fun j => by
    rw [x.eq, List.getElem?_toArray]
    unfold paL
    rw [List.getElem?_append_right (by rw [lenI_adL x.ls]; omega), List.getElem?_append_right (by rw [lenI_adL x.ls, lenI_adL x.ld]; omega), lenI_adL x.ls, lenI_adL x.ld, show 34 + j - 17 - 17 = j by omega]
  refine ⟨?_, (h 34).trans ((e 0).trans rfl), (h 35).trans ((e 1).trans rfl), (h 36).trans ((e 2).trans rfl)⟩
  rw [h, x.eq]; rfl
end
/-- the packet of a frame, ahead of its data. -/
def hG (p : PaG) (A : Option Addr) (n c : Nat) : Ip := ⟨p.sv, p.sv, p.sb, p.dv, p.db, 17, p.ttl, 0, 0, false, 0, none, 0, 0, A, n, c⟩
/-- the datagram of a frame. -/
def sG (p : PaG) (A : Option Addr) (n c : Nat) : Sg := ⟨17, p.port, 6081, 0, 0, 0, 0, 0, false, none, 0, 0, A, n, c⟩
/-- a frame of a tunnel, or why there is none. -/
def wrapG (p : PaG) (T : TuD) : List UInt8 × Int :=
  if (putD T).2 ≠ 0 then ([], ((putD T).2 : Int))
  else if p.mtu < 1 ∨ 65535 < p.mtu then ([], 1)
  else if putE (hG p none 0 0) (sG p none (putD T).1.length 0) ≠ 0 then ([], putE (hG p none 0 0) (sG p none (putD T).1.length 0))
  else if pktE (hG p none (putB (hG p none 0 0) (sG p none (putD T).1.length 0) [] (putD T).1).length 0) ≠ 0 then ([], pktE (hG p none (putB (hG p none 0 0) (sG p none (putD T).1.length 0) [] (putD T).1).length 0))
  else if p.mtu < ((pktB (hG p none (putB (hG p none 0 0) (sG p none (putD T).1.length 0) [] (putD T).1).length 0) [] (putB (hG p none 0 0) (sG p none (putD T).1.length 0) [] (putD T).1)).length : Int) then ([], 16)
  else (pktB (hG p none (putB (hG p none 0 0) (sG p none (putD T).1.length 0) [] (putD T).1).length 0) [] (putB (hG p none 0 0) (sG p none (putD T).1.length 0) [] (putD T).1), 0)
theorem built_hGA (v s d : Bool) (t : Int) (b0 b1 b2 b3 b4 b5 b6 b7 b8 b9 b10 b11 b12 b13 b14 b15 c0 c1 c2 c3 c4 c5 c6 c7 c8 c9 c10 c11 c12 c13 c14 c15 : UInt8) :
    Tryz.prog.built 51 [(0, .bool v), (1, .agg (adL s [b0, b1, b2, b3, b4, b5, b6, b7, b8, b9, b10, b11, b12, b13, b14, b15]).toArray), (2, .agg (adL d [c0, c1, c2, c3, c4, c5, c6, c7, c8, c9, c10, c11, c12, c13, c14, c15]).toArray), (3, .int .i64 17), (4, .int .i64 t)] = some (ipL ⟨v, s, [b0, b1, b2, b3, b4, b5, b6, b7, b8, b9, b10, b11, b12, b13, b14, b15], d, [c0, c1, c2, c3, c4, c5, c6, c7, c8, c9, c10, c11, c12, c13, c14, c15], 17, t, 0, 0, false, 0, none, 0, 0, none, 0, 0⟩).toArray := by kernel_rfl
theorem built_hG (p : PaG) (ls : p.sb.length = 16) (ld : p.db.length = 16) : Tryz.prog.built 51 [(0, .bool p.sv), (1, .agg (adL p.sv p.sb).toArray), (2, .agg (adL p.dv p.db).toArray), (3, .int .i64 17), (4, .int .i64 p.ttl)] = some (ipL (hG p none 0 0)).toArray := by
  obtain ⟨sv, sb, dv, db, po, t, m⟩ := p
  match sb, db, ls, ld with
  | [_, _, _, _, _, _, _, _, _, _, _, _, _, _, _, _], [_, _, _, _, _, _, _, _, _, _, _, _, _, _, _, _], _, _ => exact built_hGA _ _ _ _ _ _ _ _ _ _ _ _ _ _ _ _ _ _ _ _ _ _ _ _ _ _ _ _ _ _ _ _ _ _ _ _
theorem built_sG (p : PaG) (A : Option Addr) (n c : Nat) : Tryz.prog.built 55 [(0, .int .i64 17), (1, .int .i64 p.port), (2, .int .i64 6081), (10, .slice A n c)] = some (sgL (sG p A n c)).toArray := by kernel_rfl
end Go.Proofs.YtihakjcccbionaaGreatDoor

end
section
/-
  The walk of geneve.Wrap.
-/
namespace Go.Proofs.YtihakjcccbionaaGreatDoor
open Go.RowKit
set_option maxRecDepth 100000
set_option linter.unusedVariables false
set_option linter.unusedSimpArgs false
attribute [local go_sem ↓] exec_span exec_put exec_build heap_alloc_new heap_old
attribute [local go_sem] spanQ_ptr spanC_some heap_of_drew heap_of_drewN putAt_ptr putOk_ptr oldOk_some World.setRow_alloc_new rs_tunG rs_ad rs_ip rs_seg rs_arr

theorem tuG_size {w : World} {X : Array Value} {T : TuD} (h : TuG w X T) : X.size = 5 ∧ allOne X = true ∧ X.extract 0 5 = X := by obtain ⟨_, _, _, _, _, rfl, _⟩ := h; exact ⟨rfl, tunA_one _ _ _ _ _ _ _ _ _, rfl⟩
theorem rs_path : rowSize Tryz.prog 34 = some 37 := by kernel_rfl
attribute [local go_sem] rs_path
theorem wrapG_put (p : PaG) (T : TuD) (h : (putD T).2 ≠ 0) : wrapG p T = ([], ((putD T).2 : Int)) := by unfold wrapG; rw [if_pos h]
theorem wrapG_mtu (p : PaG) (T : TuD) (h : ¬ (putD T).2 ≠ 0) (h2 : p.mtu < 1 ∨ 65535 < p.mtu) : wrapG p T = ([], 1) := by unfold wrapG; rw [if_neg h, if_pos h2]
theorem wrapG_on (p : PaG) (T : TuD) (h : ¬ (putD T).2 ≠ 0) (h2 : ¬ (p.mtu < 1 ∨ 65535 < p.mtu)) (L Dg B : List UInt8) (E7 E9 : Int) (hL : L = (putD T).1) (hD : Dg = putB (hG p none 0 0) (sG p none L.length 0) [] L) (hE7 : E7 = putE (hG p none 0 0) (sG p none L.length 0)) (hB : B = pktB (hG p none Dg.length 0) [] Dg) (hE9 : E9 = pktE (hG p none Dg.length 0)) :
    wrapG p T = if E7 ≠ 0 then ([], E7) else if E9 ≠ 0 then ([], E9) else if p.mtu < (B.length : Int) then ([], 16) else (B, 0) := by
  unfold wrapG
  subst hL hD hE7 hB hE9
  rw [if_neg h, if_neg h2]
theorem putD_len (T : TuD) : (putD T).1.length ≤ 65535 := by
  unfold putD
  by_cases h1 : rightD T = false
  · rw [if_pos h1]; simp
  · rw [if_neg h1]
    by_cases h2 : 252 < sizeD T.l
    · rw [if_pos h2]; simp
    · rw [if_neg h2]
      by_cases h3 : (bytD T).length ≤ 65535
      · rw [if_pos h3]; exact h3
      · rw [if_neg h3]; simp
theorem putB_len (h : Ip) (s : Sg) (O D : List UInt8) (hO : O.length = s.no) (hD : D.length = s.nd) : (putB h s O D).length ≤ 65535 := by
  unfold putB
  by_cases h0 : putE h s = 0
  · rw [if_pos h0]
    unfold putE at h0
    by_cases h1 : (h.p = 6 ∨ h.p = 17) ∧ s.p = h.p
    · rw [if_pos h1] at h0
      by_cases h2 : rightS s = true ∧ (s.ns && h.v) = false
      · rw [if_pos h2] at h0
        by_cases h3 : 65535 < hdN s + s.nd
        · rw [if_pos h3] at h0; cases h0
        · rw [len_segB h2.1 hO hD]; omega
      · rw [if_neg h2] at h0; cases h0
    · rw [if_neg h1] at h0; cases h0
  · rw [if_neg h0]; simp
set_option maxHeartbeats 8000000 in
theorem wrapG_any (w : World) (P X : Array Value) (p : PaG) (T : TuD) (hp : PaV P p) (h : TuG w X T) (hl : T.l.length ≤ 1048576) (hs : sizeD T.l ≤ 4611686018427387904) :
    Calls Tryz.prog 4 #[.agg P, .agg X] w fun e w' => ∃ A c, e = .returned (.tuple #[.slice A (wrapG p T).1.length c, .int .i64 (wrapG p T).2]) ∧ OwnB w' w.heap.size (.slice A (wrapG p T).1.length c) (wrapG p T).1 ∧ Below w.heap.size w w' := by
  obtain ⟨R, hR⟩ : ∃ R, R = wrapG p T := ⟨_, rfl⟩
  rw [← hR]
  have HR := hide hR
  have HF : Hid (∀ (w' : World) (E : Int), R = ([], E) → Below w.heap.size w w' → ∃ A c, Ending.returned (.tuple #[.slice none 0 0, .int .i64 E]) = .returned (.tuple #[.slice A R.1.length c, .int .i64 R.2]) ∧ OwnB w' w.heap.size (.slice A R.1.length c) R.1 ∧ Below w.heap.size w w') := hide (fun w' E e b => by rw [e]; exact ⟨none, 0, rfl, OwnB.nil _ _, b⟩)
  obtain ⟨W0, hW0, r0, z0, b0⟩ := alloc_tl w (.cells P 34)
  obtain ⟨W, hW, r1, z1, b1⟩ := alloc_tl W0 (.cells X 38)
  rw [z0] at r1
  have r0' := (b1.block w.heap.size (by omega)).trans r0
  have bW : Below w.heap.size w W := b0.trans (b1.mono (by omega))
  have hps := hp.size
  obtain ⟨hxs, hxo, hxx⟩ := tuG_size h
  obtain ⟨S, hS⟩ : ∃ S, S = (adL p.sv p.sb).toArray := ⟨_, rfl⟩
  obtain ⟨D, hD⟩ : ∃ D, D = (adL p.dv p.db).toArray := ⟨_, rfl⟩
  have hsrc := hp.src
  have hdst := hp.dst
  rw [← hS] at hsrc
  rw [← hD] at hdst
  obtain ⟨H, hH⟩ : ∃ H, H = (ipL (hG p none 0 0)).toArray := ⟨_, rfl⟩
  have hbh := built_hG p hp.ls hp.ld
  rw [← hS, ← hD, ← hH] at hbh
  have VH : IpV H (hG p none 0 0) := ⟨hH, hp.ls, hp.ld⟩
  have hHs := VH.size
  have hHx := VH.x0
  have hHo := VH.one
  have HVH := hide VH
  have HPV := hide hp
  obtain ⟨pv, hpv⟩ : ∃ x, x = p.sv := ⟨_, rfl⟩
  obtain ⟨po, hpo⟩ : ∃ x, x = p.port := ⟨_, rfl⟩
  obtain ⟨pt, hpt⟩ : ∃ x, x = p.ttl := ⟨_, rfl⟩
  obtain ⟨pm, hpm⟩ : ∃ x, x = p.mtu := ⟨_, rfl⟩
  rw [← hpv, ← hpt] at hbh
  have HC := hide (fun (W1 : World) (b : Below W.heap.size W W1) => (by have r := (b.block w.heap.size (by omega)).trans r0'; have c := hp.cells r; rw [← hpv, ← hpo, ← hpt, ← hpm] at c; exact ⟨r, (b.block (w.heap.size + 1) (by omega)).trans r1, c⟩ : W1.heap[w.heap.size]? = some (.cells P 34 (0, 0)) ∧ W1.heap[w.heap.size + 1]? = some (.cells X 38 (0, 0)) ∧ W1.cell? ⟨w.heap.size, 0, none⟩ = some (.bool pv) ∧ W1.cell? ⟨w.heap.size, 34, none⟩ = some (.int .i64 po) ∧ W1.cell? ⟨w.heap.size, 35, none⟩ = some (.int .i64 pt) ∧ W1.cell? ⟨w.heap.size, 36, none⟩ = some (.int .i64 pm)))
  have KP := hide (putGG_any W X T (h.below bW) hl hs)
  unfold PutPG at KP
  obtain ⟨L, hL⟩ : ∃ L, L = (putD T).1 := ⟨_, rfl⟩
  obtain ⟨E, hE⟩ : ∃ E, E = (putD T).2 := ⟨_, rfl⟩
  rw [← hL, ← hE] at KP
  have HLE := hide (And.intro hL hE)
  have HPO := hide (And.intro hpv (And.intro hpo (And.intro hpt hpm)))
  have HB := hide bW
  have HW := hide (And.intro hW0 hW)
  obtain ⟨q0, q1, d0, d34, d35, d36⟩ := HC.out W (Below.refl _ _)
  clear hR hW0 hW r0 r1 r0' z0 z1 b0 b1 bW hS hD hH VH hp h hl hs hL hE hpv hpo hpt hpm
  go_enter Tryz.func4, Tryz.ntmps4
  go_upto_region 1 with (fail)
  change Code.wp _ _ _ _ ((w.alloc (.cells P 34)).alloc (.cells X 38))
  rw [HW.out.1, HW.out.2]
  go_wp2_with fail
  refine KP.out.mono ?_
  rintro e w2 ⟨A2, c2, rfl, o2, b2⟩
  have B2 := hide b2
  have O2 := hide o2
  obtain ⟨q2, -, e0, e34, e35, e36⟩ := HC.out w2 b2
  clear q0 q1 d0 d34 d35 d36 o2 b2
  dsimp only
  by_cases hE0 : E = 0
  · subst hE0
    have he0 : ¬ (putD T).2 ≠ 0 := by rw [← HLE.out.2]; simp
    have HE0 := hide he0
    clear he0
    by_cases hm : pm < 1 ∨ 65535 < pm
    · have hR1 := hide (HR.out.trans (wrapG_mtu p T HE0.out (by rw [← HPO.out.2.2.2]; exact hm)))
      rcases hm with hm | hm
      · go_wp2
        go_ret2
        exact HF.out _ _ hR1.out (HB.out.trans (B2.out.mono HB.out.size))
      · have hm1 : ¬ pm < 1 := by omega
        go_wp2
        go_ret2
        exact HF.out _ _ hR1.out (HB.out.trans (B2.out.mono HB.out.size))
    · have hm1 : ¬ pm < 1 := by omega
      have hm2 : ¬ pm > 65535 := by omega
      have HM := hide hm
      clear hm
      go_upto_region 7 with (fail)
      obtain ⟨W3, hW3, r3, z3, b3⟩ := alloc_tl w2 (.cells H 51)
      rw [hW3]
      obtain ⟨g, hg⟩ : ∃ g, g = w2.heap.size := ⟨_, rfl⟩
      rw [← hg] at r3 ⊢
      obtain ⟨-, -, -, f34, f35, f36⟩ := HC.out W3 (B2.out.trans (b3.mono B2.out.size))
      have B3 : Hid (Below W.heap.size W W3) := hide (B2.out.trans (b3.mono B2.out.size))
      have HG3 : Hid (g < W3.heap.size ∧ W.heap.size ≤ g) := hide ⟨by omega, by rw [hg]; exact B2.out.size⟩
      obtain ⟨Ax, cx, ex, hlc, hby, hnil, -⟩ := O2.out.shape
      cases ex
      have hLl := putD_len T
      rw [← HLE.out.1] at hLl
      obtain ⟨V, hV⟩ : ∃ V, V = (sgL (sG p A2 L.length c2)).toArray := ⟨_, rfl⟩
      have hbv := built_sG p A2 L.length c2
      rw [← hV, ← HPO.out.2.1] at hbv
      have KS := segPut_any W3 H V (hG p none 0 0) (sG p A2 L.length c2) HVH.out ⟨hV, by show 0 < 4294967296; decide, by show 0 < 4294967296; decide⟩ [] L (Byt.nil _ _ _) rfl (Nat.le_refl _) (fun _ => rfl) ((hby.below b3).more b3.size) rfl hlc hnil (by show 0 ≤ 140737488355328; decide) (by show L.length ≤ _; omega)
      obtain ⟨Dg, hDg⟩ : ∃ D, D = putB (hG p none 0 0) (sG p A2 L.length c2) [] L := ⟨_, rfl⟩
      obtain ⟨E7, hE7⟩ : ∃ D, D = putE (hG p none 0 0) (sG p A2 L.length c2) := ⟨_, rfl⟩
      rw [← hDg, ← hE7] at KS
      have HD7 : Hid (Dg = putB (hG p none 0 0) (sG p none L.length 0) [] L ∧ E7 = putE (hG p none 0 0) (sG p none L.length 0)) := hide ⟨hDg, hE7⟩
      have HDL : Hid (Dg.length ≤ 65535) := hide (by rw [hDg]; exact putB_len _ _ _ _ rfl rfl)
      have KS := hide KS
      clear hW3 z3 b3 hg hlc hby hnil hLl hV hDg hE7 q2 e0 e34 e35 e36
      go_wp2_with fail
      refine KS.out.mono ?_
      rintro e w7 ⟨A7, c7, rfl, o7, b7⟩
      have r7 := (b7.block g HG3.out.1).trans r3
      have k42 := (HVH.out.cells r7).c42
      have f42 := frozen_of_row _ g 42 _ _ r7
      have h1 := heap_setCell_same w7 g 42 _ _ (.slice A7 Dg.length c7) r7
      rw [HVH.out.eq, ip_set42 _ HVH.out.ls HVH.out.ld] at h1
      obtain ⟨W8, hW8⟩ : ∃ W, W = w7.setCell ⟨g, 42, none⟩ (.slice A7 Dg.length c7) := ⟨_, rfl⟩
      have gs8 : w7.grownBy W8 (some g) := by rw [hW8]; exact grown_set w7 g 42 _
      rw [← hW8] at h1
      obtain ⟨H2, hH2⟩ : ∃ H, H = (ipL (hG p A7 Dg.length c7)).toArray := ⟨_, rfl⟩
      have r8 : W8.heap[g]? = some (.cells H2 51 (0, 0)) := by rw [hH2]; exact h1
      have V2 : IpV H2 (hG p A7 Dg.length c7) := ⟨hH2, HPV.out.ls, HPV.out.ld⟩
      have h2s := V2.size
      have h2x := V2.x0
      have B8 : Hid (Below W.heap.size W W8) := hide ((B3.out.trans (b7.mono B3.out.size)).grown gs8 (Nat.le_trans B3.out.size b7.size) (fun k e => by cases e; exact HG3.out.2))
      have o8 : OwnB W8 W3.heap.size (.slice A7 Dg.length c7) Dg := World.ownsRow.kept o7 gs8 (by
        by_cases e : (Value.slice A7 Dg.length c7).ownBlock = some g
        · have h5 := (World.ownsRow.lt o7 g e).1; have h6 := HG3.out.1; omega
        · exact .inr e)
      have O8 := hide o8
      have HV2 := hide V2
      have hW8' := hide hW8
      clear h1 gs8 o8 V2 hH2 r3 f34 f35 f36 b7 o7 r7 KS
      dsimp only
      go_upto_region 8 with (fail)
      rw [← hW8'.out]
      clear k42 f42 hW8
      by_cases hE7 : E7 = 0
      · obtain ⟨Ay, cy, ey, -, hby8, -, -⟩ := O8.out.shape
        cases ey
        have KH := putH_any W8 H2 (hG p A7 Dg.length c7) HV2.out [] Dg (Byt.nil _ _ _) rfl hby8 rfl (by show 0 ≤ 140737488355328; decide) (by have := HDL.out; show Dg.length ≤ _; omega)
        obtain ⟨B9, hB9⟩ : ∃ D, D = pktB (hG p A7 Dg.length c7) [] Dg := ⟨_, rfl⟩
        obtain ⟨E9, hE9⟩ : ∃ D, D = pktE (hG p A7 Dg.length c7) := ⟨_, rfl⟩
        rw [← hB9, ← hE9] at KH
        have HW9 := hide (wrapG_on p T HE0.out (by rw [← HPO.out.2.2.2]; exact HM.out) L Dg B9 E7 E9 HLE.out.1 HD7.out.1 HD7.out.2 hB9 hE9)
        have KH := hide KH
        subst hE7
        clear hby8 hB9 hE9
        go_wp2_with fail
        refine KH.out.mono ?_
        rintro e w9 ⟨A9, c9, rfl, o9, b9⟩
        have B9' : Hid (Below W.heap.size W w9) := hide (B8.out.trans (b9.mono B8.out.size))
        obtain ⟨-, -, -, -, -, k36⟩ := HC.out w9 B9'.out
        have O9 : Hid (OwnB w9 w.heap.size (.slice A9 B9.length c9) B9) := hide (by
          refine ⟨o9.1, o9.2.imp id fun ⟨gg, cap, cur, h1, h2, h3⟩ => ⟨gg, cap, cur, h1, ?_, h3⟩⟩
          have h4 := B8.out.size; have h5 := HB.out.size; omega)
        have BF : Hid (Below w.heap.size w w9) := hide (HB.out.trans (B9'.out.mono HB.out.size))
        have hR9 := HR.out.trans HW9.out
        rw [if_neg (by simp), ← HPO.out.2.2.2] at hR9
        have HR9 := hide hR9
        clear o9 b9 hR9 KH r8
        dsimp only
        by_cases hE9 : E9 = 0
        · subst hE9
          by_cases hbig : (B9.length : Int) > pm
          · have hR1 := hide (HR9.out.trans (by rw [if_neg (by simp), if_pos (by omega)]))
            go_wp2
            go_ret2
            exact HF.out _ _ hR1.out BF.out
          · have hR1 := hide (HR9.out.trans (by rw [if_neg (by simp), if_neg (by omega)]))
            go_wp2
            go_ret2
            rw [hR1.out]
            exact ⟨A9, c9, rfl, O9.out, BF.out⟩
        · have hEn : (E9 != 0) = true := by simpa using hE9
          have hR1 := hide (HR9.out.trans (by rw [if_pos hE9]))
          clear hE9
          go_wp2
          go_ret2
          exact HF.out _ _ hR1.out BF.out
      · have hEn : (E7 != 0) = true := by simpa using hE7
        have hR1 := hide (HR.out.trans ((wrapG_on p T HE0.out (by rw [← HPO.out.2.2.2]; exact HM.out) L Dg _ E7 _ HLE.out.1 HD7.out.1 HD7.out.2 rfl rfl).trans (by rw [if_pos hE7])))
        clear hE7
        go_wp2
        go_ret2
        exact HF.out _ _ hR1.out (HB.out.trans (B8.out.mono HB.out.size))
  · have hEn : ((E : Int) != 0) = true := by simp; exact hE0
    have hR1 := hide (HR.out.trans (wrapG_put p T (by rw [← HLE.out.2]; exact hE0)))
    rw [← HLE.out.2] at hR1
    clear hE0
    go_wp2
    go_ret2
    exact HF.out _ _ hR1.out (HB.out.trans (B2.out.mono HB.out.size))
end Go.Proofs.YtihakjcccbionaaGreatDoor

end
section
/-
  How long a frame is; the walk of path.
-/
namespace Go.Proofs.YtihakjcccbionaaGreatDoor
open Go.RowKit
set_option maxRecDepth 100000
set_option linter.unusedVariables false
set_option linter.unusedSimpArgs false
attribute [local go_sem ↓] exec_span exec_put exec_build heap_alloc_new heap_old
attribute [local go_sem] spanQ_ptr spanC_some heap_of_drew heap_of_drewN putAt_ptr putOk_ptr oldOk_some World.setRow_alloc_new rs_ad rs_arr rs_path

def atMtu (p : PaG) (m : Int) : PaG := { p with mtu := m }
/-- how many bytes a frame has. -/
def lenF (p : PaG) (T : TuD) : Nat := 36 + (if p.sv then 20 else 0) + (sizeD T.l + T.D.length)
theorem wrapG_bad {p : PaG} {T : TuD} (h : (wrapG p T).2 ≠ 0) : (wrapG p T).1 = [] := by
  unfold wrapG at h ⊢
  by_cases h1 : (putD T).2 ≠ 0
  · rw [if_pos h1]
  · rw [if_neg h1] at h ⊢
    by_cases h2 : p.mtu < 1 ∨ 65535 < p.mtu
    · rw [if_pos h2]
    · rw [if_neg h2] at h ⊢
      by_cases h3 : putE (hG p none 0 0) (sG p none (putD T).1.length 0) ≠ 0
      · rw [if_pos h3]
      · rw [if_neg h3] at h ⊢
        by_cases h4 : pktE (hG p none (putB (hG p none 0 0) (sG p none (putD T).1.length 0) [] (putD T).1).length 0) ≠ 0
        · rw [if_pos h4]
        · rw [if_neg h4] at h ⊢
          by_cases h5 : p.mtu < ((pktB (hG p none (putB (hG p none 0 0) (sG p none (putD T).1.length 0) [] (putD T).1).length 0) [] (putB (hG p none 0 0) (sG p none (putD T).1.length 0) [] (putD T).1)).length : Int)
          · rw [if_pos h5]
          · rw [if_neg h5] at h; exact absurd rfl h
theorem putD_zero {T : TuD} (h : ¬ (putD T).2 ≠ 0) : (putD T).1 = bytD T := by
  unfold putD at h ⊢
  by_cases h1 : rightD T = false
  · rw [if_pos h1] at h; simp at h
  · rw [if_neg h1] at h ⊢
    by_cases h2 : 252 < sizeD T.l
    · rw [if_pos h2] at h; simp at h
    · rw [if_neg h2] at h ⊢
      by_cases h3 : (bytD T).length ≤ 65535
      · rw [if_pos h3]
      · rw [if_neg h3] at h; simp at h
/-- a frame that is one: its length, and what comes of less room. -/
theorem wrapG_len {p : PaG} {T : TuD} (ls : p.sb.length = 16) (ld : p.db.length = 16) (h : (wrapG (atMtu p 65535) T).2 = 0) :
    (wrapG (atMtu p 65535) T).1.length = lenF p T ∧ lenF p T ≤ 65535 ∧ wrapG (atMtu p (lenF p T : Nat)) T = wrapG (atMtu p 65535) T ∧ wrapG (atMtu p ((lenF p T : Nat) - 1 : Int)) T = ([], 16) := by
  have hk : ∀ m A n c, hG (atMtu p m) A n c = hG p A n c := fun _ _ _ _ => rfl
  have hk2 : ∀ m A n c, sG (atMtu p m) A n c = sG p A n c := fun _ _ _ _ => rfl
  have hm : ∀ m, (atMtu p m).mtu = m := fun _ => rfl
  unfold wrapG at h ⊢
  simp only [hk, hk2, hm] at h ⊢
  by_cases h1 : (putD T).2 ≠ 0
  · rw [if_pos h1] at h; simp at h; omega
  · rw [if_neg h1] at h
    rw [if_neg h1, if_neg h1, if_neg h1]
    have hL := putD_zero h1
    have hLl : (putD T).1.length = 8 + (sizeD T.l + T.D.length) := by rw [hL, bytD_len]
    rw [if_neg (by omega)] at h
    rw [if_neg (show ¬ ((65535 : Int) < 1 ∨ (65535 : Int) < 65535) by omega)]
    obtain ⟨L, hLL⟩ : ∃ L, L = (putD T).1 := ⟨_, rfl⟩
    rw [← hLL] at h hLl ⊢
    obtain ⟨E7, hE7⟩ : ∃ D, D = putE (hG p none 0 0) (sG p none L.length 0) := ⟨_, rfl⟩
    obtain ⟨Dg, hDg⟩ : ∃ D, D = putB (hG p none 0 0) (sG p none L.length 0) [] L := ⟨_, rfl⟩
    rw [← hE7, ← hDg] at h ⊢
    by_cases h3 : E7 ≠ 0
    · rw [if_pos h3] at h; exact absurd h h3
    · rw [if_neg h3] at h
      rw [if_neg h3, if_neg h3, if_neg h3]
      have h3' : E7 = 0 := by simpa using h3
      rw [h3'] at hE7
      have hDl : Dg.length = 8 + L.length := by
        rw [hDg]
        unfold putB
        rw [if_pos hE7.symm]
        have hr : rightS (sG p none L.length 0) = true := by
          have h9 := hE7
          unfold putE at h9
          rw [if_pos ⟨.inr rfl, rfl⟩] at h9
          by_cases h2 : rightS (sG p none L.length 0) = true ∧ ((sG p none L.length 0).ns && (hG p none 0 0).v) = false
          · exact h2.1
          · rw [if_neg h2] at h9; cases h9
        rw [len_segB hr rfl rfl]
        rfl
      obtain ⟨E9, hE9⟩ : ∃ D, D = pktE (hG p none Dg.length 0) := ⟨_, rfl⟩
      obtain ⟨B, hB⟩ : ∃ D, D = pktB (hG p none Dg.length 0) [] Dg := ⟨_, rfl⟩
      rw [← hE9, ← hB] at h ⊢
      by_cases h4 : E9 ≠ 0
      · rw [if_pos h4] at h; exact absurd h h4
      · rw [if_neg h4] at h
        rw [if_neg h4, if_neg h4, if_neg h4]
        have h4' : E9 = 0 := by simpa using h4
        rw [h4'] at hE9
        have hBl : B.length = lenF p T := by
          rw [hB, pk_len hE9.symm ls ld rfl rfl]
          unfold lenF sizeN
          show (if p.sv = true then 40 else 20 + 0) + Dg.length = _
          rw [hDl, hLl]
          cases p.sv <;> simp <;> omega
        by_cases h5 : (65535 : Int) < (B.length : Int)
        · rw [if_pos h5] at h; cases h
        · have hf : 36 ≤ lenF p T := by unfold lenF; omega
          rw [if_neg h5, hBl]
          refine ⟨rfl, by omega, ?_, ?_⟩
          · rw [if_neg (by omega), if_neg (by omega)]
          · rw [if_neg (by omega), if_pos (by omega)]
theorem built_pA (s d : Bool) (a t m : Int) (b0 b1 b2 b3 b4 b5 b6 b7 b8 b9 b10 b11 b12 b13 b14 b15 c0 c1 c2 c3 c4 c5 c6 c7 c8 c9 c10 c11 c12 c13 c14 c15 : UInt8) :
    Tryz.prog.built 34 [(0, .agg (adL s [b0, b1, b2, b3, b4, b5, b6, b7, b8, b9, b10, b11, b12, b13, b14, b15]).toArray), (1, .agg (adL d [c0, c1, c2, c3, c4, c5, c6, c7, c8, c9, c10, c11, c12, c13, c14, c15]).toArray), (2, .int .i64 a), (3, .int .i64 t), (4, .int .i64 m)] = some (paL ⟨s, [b0, b1, b2, b3, b4, b5, b6, b7, b8, b9, b10, b11, b12, b13, b14, b15], d, [c0, c1, c2, c3, c4, c5, c6, c7, c8, c9, c10, c11, c12, c13, c14, c15], a, t, m⟩).toArray := by kernel_rfl
theorem built_pG (p : PaG) (ls : p.sb.length = 16) (ld : p.db.length = 16) : Tryz.prog.built 34 [(0, .agg (adL p.sv p.sb).toArray), (1, .agg (adL p.dv p.db).toArray), (2, .int .i64 p.port), (3, .int .i64 p.ttl), (4, .int .i64 p.mtu)] = some (paL p).toArray := by
  obtain ⟨sv, sb, dv, db, po, t, m⟩ := p
  match sb, db, ls, ld with
  | [_, _, _, _, _, _, _, _, _, _, _, _, _, _, _, _], [_, _, _, _, _, _, _, _, _, _, _, _, _, _, _, _], _, _ => exact built_pA _ _ _ _ _ _ _ _ _ _ _ _ _ _ _ _ _ _ _ _ _ _ _ _ _ _ _ _ _ _ _ _ _ _ _ _ _
theorem pa_set36 (p : PaG) (ls : p.sb.length = 16) (ld : p.db.length = 16) (m : Int) : (paL p).toArray.setIfInBounds 36 (.int .i64 m) = (paL (atMtu p m)).toArray := by
  obtain ⟨sv, sb, dv, db, po, t, m0⟩ := p
  match sb, db, ls, ld with
  | [_, _, _, _, _, _, _, _, _, _, _, _, _, _, _, _], [_, _, _, _, _, _, _, _, _, _, _, _, _, _, _, _], _, _ => rfl
/-- a way of which another room is said. -/
theorem PaV.turn {X : Array Value} {p : PaG} (x : PaV X p) (m : Int) : PaV (paL (atMtu p m)).toArray (atMtu p m) := ⟨rfl, x.ls, x.ld⟩
theorem PaV.store {X : Array Value} {p : PaG} (x : PaV X p) {w : World} {g : Nat} {ty : TypeId} (hg : w.heap[g]? = some (.cells X ty (0, 0))) (m : Int) : (w.setCell ⟨g, 36, none⟩ (.int .i64 m)).heap[g]? = some (.cells (paL (atMtu p m)).toArray ty (0, 0)) := by
  have h := heap_setCell_same w g 36 _ _ (.int .i64 m) hg
  rw [x.eq, pa_set36 p x.ls x.ld] at h
  exact h
theorem rs_rpath : rowSize Tryz.prog 26 = some 37 := by kernel_rfl
theorem info_path : (Tryz.prog.info? 34).map (·.size) = some 37 := by kernel_rfl
attribute [local go_sem] rs_rpath
set_option maxHeartbeats 4000000 in
theorem path_any (w : World) (P : Array Value) (p : PaG) (hp : PaV P p) :
    Calls Tryz.prog 5 #[.agg P] w fun e w' => e = .returned (.agg P) ∧ Below w.heap.size w w' := by
  have hps := hp.size
  have hpo := hp.one
  obtain ⟨S, hS⟩ : ∃ S, S = (adL p.sv p.sb).toArray := ⟨_, rfl⟩
  obtain ⟨D, hD⟩ : ∃ D, D = (adL p.dv p.db).toArray := ⟨_, rfl⟩
  have hsrc := hp.src
  have hdst := hp.dst
  rw [← hS] at hsrc
  rw [← hD] at hdst
  have hbp := built_pG p hp.ls hp.ld
  rw [← hS, ← hD, ← hp.eq] at hbp
  obtain ⟨Z, hZ⟩ : ∃ Z, Z = (paL ⟨false, List.replicate 16 0, false, List.replicate 16 0, 0, 0, 0⟩).toArray := ⟨_, rfl⟩
  have hZs : Z.size = 37 := by rw [hZ]; rfl
  obtain ⟨W0, hW0, r0, z0, b0⟩ := alloc_tl w (.cells P 26)
  obtain ⟨W, hW, r1, z1, b1⟩ := alloc_tl W0 (.cells Z 34)
  rw [z0] at r1
  have r0' := (b1.block w.heap.size (by omega)).trans r0
  have bW : Below w.heap.size w W := b0.trans (b1.mono (by omega))
  obtain ⟨-, d34, d35, d36⟩ := hp.cells r0'
  have HB := hide bW
  have HW := hide (And.intro hW0 hW)
  have HZ := hide hZ
  have HR1 := hide r1
  clear hW0 hW r0 z0 z1 b0 b1 bW hS hD hp hZ
  go_enter Tryz.func5, Tryz.ntmps5
  go_upto_region 1 with (fail)
  change Code.wp _ _ _ _ ((w.alloc (.cells P 26)).alloc (.cells (paL ⟨false, List.replicate 16 0, false, List.replicate 16 0, 0, 0, 0⟩).toArray 34))
  rw [← HZ.out, HW.out.1, HW.out.2]
  go_wp2
  refine bodyPost_ret (results_cell_row (fn := Tryz.f5) Tryz.results5 _ _ (w.heap.size + 1) 34 P (0, 0) _ rfl (setRow_heap W _ _ _ _ _ HR1.out) Tryz.underlying34 rfl (by rw [hps]; exact info_path)) rfl ?_
  exact ⟨rfl, below_setRow HB.out (Nat.le_succ _) _⟩
end Go.Proofs.YtihakjcccbionaaGreatDoor

end
section
/-
  The walk of way: a way as the document has it.
-/
namespace Go.Proofs.YtihakjcccbionaaGreatDoor
open Go.RowKit
set_option maxRecDepth 100000
set_option linter.unusedVariables false
set_option linter.unusedSimpArgs false
attribute [local go_sem ↓] exec_span exec_put exec_build heap_alloc_new heap_old
attribute [local go_sem] spanQ_ptr spanC_some heap_of_drew heap_of_drewN putAt_ptr putOk_ptr oldOk_some World.setRow_alloc_new rs_ad rs_arr rs_path rs_rpath
theorem built_rpA (s d : Bool) (a t m : Int) (b0 b1 b2 b3 b4 b5 b6 b7 b8 b9 b10 b11 b12 b13 b14 b15 c0 c1 c2 c3 c4 c5 c6 c7 c8 c9 c10 c11 c12 c13 c14 c15 : UInt8) :
    Tryz.prog.built 26 [(0, .agg (adL s [b0, b1, b2, b3, b4, b5, b6, b7, b8, b9, b10, b11, b12, b13, b14, b15]).toArray), (1, .agg (adL d [c0, c1, c2, c3, c4, c5, c6, c7, c8, c9, c10, c11, c12, c13, c14, c15]).toArray), (2, .int .i64 a), (3, .int .i64 t), (4, .int .i64 m)] = some (paL ⟨s, [b0, b1, b2, b3, b4, b5, b6, b7, b8, b9, b10, b11, b12, b13, b14, b15], d, [c0, c1, c2, c3, c4, c5, c6, c7, c8, c9, c10, c11, c12, c13, c14, c15], a, t, m⟩).toArray := by kernel_rfl
theorem built_rpG (p : PaG) (ls : p.sb.length = 16) (ld : p.db.length = 16) : Tryz.prog.built 26 [(0, .agg (adL p.sv p.sb).toArray), (1, .agg (adL p.dv p.db).toArray), (2, .int .i64 p.port), (3, .int .i64 p.ttl), (4, .int .i64 p.mtu)] = some (paL p).toArray := by
  obtain ⟨sv, sb, dv, db, po, t, m⟩ := p
  match sb, db, ls, ld with
  | [_, _, _, _, _, _, _, _, _, _, _, _, _, _, _, _], [_, _, _, _, _, _, _, _, _, _, _, _, _, _, _, _], _, _ => exact built_rpA _ _ _ _ _ _ _ _ _ _ _ _ _ _ _ _ _ _ _ _ _ _ _ _ _ _ _ _ _ _ _ _ _ _ _ _ _
theorem info_rpath : (Tryz.prog.info? 26).map (·.size) = some 37 := by kernel_rfl
set_option maxHeartbeats 4000000 in
theorem way_any (w : World) (P : Array Value) (p : PaG) (hp : PaV P p) :
    Calls Tryz.prog 12 #[.agg P] w fun e w' => e = .returned (.agg P) ∧ Below w.heap.size w w' := by
  have hps := hp.size
  have hpo := hp.one
  obtain ⟨S, hS⟩ : ∃ S, S = (adL p.sv p.sb).toArray := ⟨_, rfl⟩
  obtain ⟨D, hD⟩ : ∃ D, D = (adL p.dv p.db).toArray := ⟨_, rfl⟩
  have hsrc := hp.src
  have hdst := hp.dst
  rw [← hS] at hsrc
  rw [← hD] at hdst
  have hbp := built_rpG p hp.ls hp.ld
  rw [← hS, ← hD, ← hp.eq] at hbp
  obtain ⟨Z, hZ⟩ : ∃ Z, Z = (paL ⟨false, List.replicate 16 0, false, List.replicate 16 0, 0, 0, 0⟩).toArray := ⟨_, rfl⟩
  have hZs : Z.size = 37 := by rw [hZ]; rfl
  obtain ⟨W0, hW0, r0, z0, b0⟩ := alloc_tl w (.cells P 34)
  obtain ⟨W, hW, r1, z1, b1⟩ := alloc_tl W0 (.cells Z 26)
  rw [z0] at r1
  have r0' := (b1.block w.heap.size (by omega)).trans r0
  have bW : Below w.heap.size w W := b0.trans (b1.mono (by omega))
  obtain ⟨-, d34, d35, d36⟩ := hp.cells r0'
  have HB := hide bW
  have HW := hide (And.intro hW0 hW)
  have HZ := hide hZ
  have HR1 := hide r1
  clear hW0 hW r0 z0 z1 b0 b1 bW hS hD hp hZ
  go_enter Tryz.func12, Tryz.ntmps12
  go_upto_region 1 with (fail)
  change Code.wp _ _ _ _ ((w.alloc (.cells P 34)).alloc (.cells (paL ⟨false, List.replicate 16 0, false, List.replicate 16 0, 0, 0, 0⟩).toArray 26))
  rw [← HZ.out, HW.out.1, HW.out.2]
  go_wp2
  refine bodyPost_ret (results_cell_row (fn := Tryz.f12) Tryz.results12 _ _ (w.heap.size + 1) 26 P (0, 0) _ rfl (setRow_heap W _ _ _ _ _ HR1.out) Tryz.underlying26 rfl (by rw [hps]; exact info_rpath)) rfl ?_
  exact ⟨rfl, below_setRow HB.out (Nat.le_succ _) _⟩
end Go.Proofs.YtihakjcccbionaaGreatDoor

end
