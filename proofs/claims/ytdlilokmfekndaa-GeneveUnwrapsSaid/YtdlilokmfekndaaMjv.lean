import Derived.Test.YtdlilokmfekndaaJm
import Derived.Test.YtdlilokmfekndaaMkp
import Derived.Test.YtdlilokmfekndaaJa
import Derived.Test.YtdlilokmfekndaaJb
import Derived.Test.YtdlilokmfekndaaBits
section
/-
  The walks of the statement HeaderSum and of the document's Size.
-/
namespace Go.Proofs.Ytdlilokmfekndaa
open Go.RowKit
attribute [local go_sem ↓] exec_span exec_put exec_build heap_alloc_new heap_old
attribute [local go_sem] spanQ_ptr spanC_some heap_of_drew heap_of_drewN rs_arr rs_ad rs_ip rs_rip putAt_ptr putOk_ptr oldOk_some World.setRow_alloc_new
set_option maxRecDepth 100000
set_option linter.unusedVariables false
set_option linter.unusedSimpArgs false

end Go.Proofs.Ytdlilokmfekndaa

end
section
/-
  The walk of the document's own (a head's sum).
-/
namespace Go.Proofs.Ytdlilokmfekndaa
open Go.RowKit
attribute [local go_sem ↓] exec_span exec_put exec_build heap_alloc_new heap_old
attribute [local go_sem] spanQ_ptr spanC_some heap_of_drew heap_of_drewN rs_arr rs_ad rs_ip rs_rip putAt_ptr putOk_ptr oldOk_some World.setRow_alloc_new
set_option maxRecDepth 100000
set_option linter.unusedVariables false
set_option linter.unusedSimpArgs false

/-- a byte of one's own row is written over. -/
theorem OwnB.put {w : World} {base g cap : Nat} {l : List UInt8} (h : OwnB w base (.slice (some ⟨g, 0, none⟩) l.length cap) l) (j : Nat) (hj : j < l.length) (x : UInt8) :
    OwnB (w.setCell ⟨g, j, none⟩ (.int .u8 (x.toNat : Int))) base (.slice (some ⟨g, 0, none⟩) l.length cap) (l.set j x) := by
  have := World.ownsRow.stored h j (.int .u8 (x.toNat : Int))
  unfold OwnB
  rw [List.length_set, List.map_set]
  exact this.1
def clr (l : List UInt8) : List UInt8 := (l.set 10 0).set 11 0
theorem clr_parts {l : List UInt8} (h : 12 ≤ l.length) : clr l = l.take 10 ++ ([0, 0] ++ l.drop 12) := by
  match l, h with
  | _ :: _ :: _ :: _ :: _ :: _ :: _ :: _ :: _ :: _ :: _ :: _ :: t, _ => rfl
  | [], h => exact absurd h (by decide)
  | [_], h => exact absurd h (by simp)
  | [_, _], h => exact absurd h (by simp)
  | [_, _, _], h => exact absurd h (by simp)
  | [_, _, _, _], h => exact absurd h (by simp)
  | [_, _, _, _, _], h => exact absurd h (by simp)
  | [_, _, _, _, _, _], h => exact absurd h (by simp)
  | [_, _, _, _, _, _, _], h => exact absurd h (by simp)
  | [_, _, _, _, _, _, _, _], h => exact absurd h (by simp)
  | [_, _, _, _, _, _, _, _, _], h => exact absurd h (by simp)
  | [_, _, _, _, _, _, _, _, _, _], h => exact absurd h (by simp)
  | [_, _, _, _, _, _, _, _, _, _, _], h => exact absurd h (by simp)
theorem inet_clr {l : List UInt8} (h : 12 ≤ l.length) : inetS (clr l) = headS l := by
  have hle : addS 0 (l.take 10) ≤ 65535 := addS_le _ _ (by omega)
  unfold inetS headS
  rw [clr_parts h, addS_append _ _ _ (by simp; omega), addS_append _ _ _ (by simp)]
  congr 2
  show rnd (addS 0 (l.take 10)) (0 * 256 + 0) = _
  unfold rnd
  rw [if_neg (by omega)]
  rfl

set_option maxHeartbeats 1000000 in
theorem own_any (w : World) (A : Option Addr) (c : Nat) (l : List UInt8) (h12 : 12 ≤ l.length) (hn : l.length ≤ 140737488355328) (hb : Byt w w.heap.size A l) (hnil : A = none → c = 0) :
    Calls Try.prog 57 #[.slice A l.length c] w fun e w' => e = .returned (.int .i64 ((headS l : Nat) : Int)) ∧ Below w.heap.size w w' := by
  have hs := headS_le l
  have hs2 := inet_clr h12
  obtain ⟨s, hS⟩ : ∃ s, s = headS l := ⟨_, rfl⟩
  rw [← hS] at hs hs2 ⊢
  have HS := hide hs2
  clear hS hs2
  go_enter Try.func57, Try.ntmps57
  go_wp2_with (at_builtin; refine wpList_app_bytes rfl (.tmp 4) (.tmp 5) rfl w.heap.size (.slice none 0 0) [] l w.heap.size c A rfl rfl (OwnB.nil _ _) (by exact hb) hnil (by simp; omega) (by simp) ?_)
  intro v1 w1 hown1 hgr1 hat1
  have b1 : Below w.heap.size w w1 := (Below.refl _ _).grown hgr1 (Nat.le_refl _) (fun k hk => by simp [Value.ownBlock] at hk)
  have hown : OwnB w1 w.heap.size v1 l := by simpa using hown1
  clear hown1 hgr1 hat1
  obtain ⟨g, cap, hv, hbg⟩ : ∃ g cap, v1 = .slice (some ⟨g, 0, none⟩) l.length cap ∧ w.heap.size ≤ g := by
    rcases hown.2 with ⟨_, h0⟩ | ⟨g, cap, cur, e, hbg, -⟩
    · omega
    · exact ⟨g, cap, e, hbg⟩
  subst hv
  have hlc : l.length ≤ cap := by obtain ⟨A', c', e, hlc, -⟩ := hown.shape; cases e; exact hlc
  have f10 := hown.frozenAt 10
  have hc10 : ∃ u, w1.cell? ⟨g, 10, none⟩ = some u := ⟨_, (hown.cellAt 10 (by omega)).trans (List.getElem?_eq_getElem (by simp; omega))⟩
  obtain ⟨u10, c10⟩ := hc10
  have ho2 := hown.put 10 (by omega) 0
  have g2 := (World.ownsRow.stored hown 10 (.int .u8 0)).2
  obtain ⟨w2, hw2⟩ : ∃ w2, w1.setCell ⟨g, 10, none⟩ (.int .u8 0) = w2 := ⟨_, rfl⟩
  have ho2' : OwnB w2 w.heap.size (.slice (some ⟨g, 0, none⟩) (l.set 10 0).length cap) (l.set 10 0) := by rw [← hw2, List.length_set]; exact ho2
  rw [hw2] at g2
  have f11 := ho2'.frozenAt 11
  have hc11 : ∃ u, w2.cell? ⟨g, 11, none⟩ = some u := ⟨_, (ho2'.cellAt 11 (by simp; omega)).trans (List.getElem?_eq_getElem (by simp; omega))⟩
  obtain ⟨u11, c11⟩ := hc11
  have ho3 := ho2'.put 11 (by simp; omega) 0
  have g3 := (World.ownsRow.stored ho2' 11 (.int .u8 0)).2
  obtain ⟨w3, hw3⟩ : ∃ w3, w2.setCell ⟨g, 11, none⟩ (.int .u8 0) = w3 := ⟨_, rfl⟩
  have ho3' : OwnB w3 w.heap.size (.slice (some ⟨g, 0, none⟩) (clr l).length cap) (clr l) := by
    have e : (clr l).length = (l.set 10 0).length := by unfold clr; rw [List.length_set]
    rw [← hw3, e]; exact ho3
  rw [hw3] at g3
  have hcl : (clr l).length = l.length := by unfold clr; simp
  have b2 : Below w.heap.size w w2 := b1.grown g2 b1.size (fun k hk => by cases hk; exact hbg)
  have b3 : Below w.heap.size w w3 := b2.grown g3 b2.size (fun k hk => by cases hk; exact hbg)
  obtain ⟨A', c', hv', hlc3, hby3, -, -⟩ := ho3'.shape
  cases hv'
  have RI := refinet_any (some ⟨g, 0, none⟩) cap (clr l) w3.heap.size w3 hlc3 (by omega) hby3
  rw [HS.out, hcl] at RI
  have HRI := hide RI
  have HB3 := hide b3
  have hl10 : (10 : Int) < (l.length : Int) := by omega
  have hl11 : (11 : Int) < (l.length : Int) := by omega
  have hwr : IntKind.i64.wrap (s : Int) = (s : Int) := IntWalk.i64_in _ (by omega)
  clear RI hby3 hlc3 ho3 ho3' ho2 ho2' g2 g3 hown b1 b2 b3 hcl hs HS
  go_wp2_with fail
  refine HRI.out.mono ?_
  rintro e w4 ⟨rfl, rfl⟩
  dsimp only
  go_wp2
  go_ret
  exact ⟨rfl, HB3.out⟩
end Go.Proofs.Ytdlilokmfekndaa

end
section
/-
  The walk of the document's Right.
-/
namespace Go.Proofs.Ytdlilokmfekndaa
open Go.RowKit
attribute [local go_sem ↓] exec_span exec_put exec_build heap_alloc_new heap_old
attribute [local go_sem] spanQ_ptr spanC_some heap_of_drew heap_of_drewN rs_arr rs_ad rs_ip rs_rip putAt_ptr putOk_ptr oldOk_some World.setRow_alloc_new
set_option maxRecDepth 100000
set_option linter.unusedVariables false
set_option linter.unusedSimpArgs false

end Go.Proofs.Ytdlilokmfekndaa

end
section
/-
  The walk of the document's Same of two packets that are alike.
-/
namespace Go.Proofs.Ytdlilokmfekndaa
open Go.RowKit
attribute [local go_sem ↓] exec_span exec_put exec_build heap_alloc_new heap_old
attribute [local go_sem] spanQ_ptr spanC_some heap_of_drew heap_of_drewN rs_arr rs_ad rs_ip rs_rip putAt_ptr putOk_ptr oldOk_some World.setRow_alloc_new
set_option maxRecDepth 100000
set_option linter.unusedVariables false
set_option linter.unusedSimpArgs false

/-- a packet with its two lists in other memory. -/
def othH (h : Ip) (ao : Option Addr) (co : Nat) (ad : Option Addr) (cd : Nat) : Ip := { h with ao := ao, co := co, ad := ad, cd := cd }
end Go.Proofs.Ytdlilokmfekndaa

end
section
/-
  The document's bytes of a packet are the program's.
-/
namespace Go.Proofs.Ytdlilokmfekndaa
open Go.RowKit
set_option linter.unusedVariables false
set_option linter.unusedSimpArgs false

theorem b8_natJ (N : Nat) : b8 (N : Int) = UInt8.ofNat N := by
  unfold b8
  have e : ((N : Int) % 256).toNat = N % 256 := by omega
  rw [e]
  apply UInt8.toNat_inj.1
  rw [UInt8.toNat_ofNat', UInt8.toNat_ofNat']
  omega
theorem b8_div (N k : Nat) : b8 ((N : Int) / (k : Int)) = UInt8.ofNat (N / k) := by
  rw [← Int.natCast_ediv]; exact b8_natJ _
theorem b8_d256 (N : Nat) : b8 ((N : Int) / 256) = UInt8.ofNat (N / 256) := b8_div N 256
theorem b8_of {z : Int} (h : 0 ≤ z) : b8 z = UInt8.ofNat z.toNat := by
  have e : z = (z.toNat : Int) := (Int.toNat_of_nonneg h).symm
  rw [e]; exact b8_natJ _
theorem b8_hi {z : Int} (h : 0 ≤ z) : b8 (z / 256) = UInt8.ofNat (z.toNat / 256) := by
  have e : z = (z.toNat : Int) := (Int.toNat_of_nonneg h).symm
  rw [e]; exact b8_div _ 256
theorem numI1 (n : Nat) : numBytes n 1 1 = [UInt8.ofNat n] := by simp [numBytes]
theorem numI2 (n : Nat) : numBytes n 2 2 = [UInt8.ofNat (n / 256), UInt8.ofNat n] := by simp [numBytes, List.range_succ]
theorem numI4 (n : Nat) : numBytes n 4 4 = [UInt8.ofNat (n / 16777216), UInt8.ofNat (n / 65536), UInt8.ofNat (n / 256), UInt8.ofNat n] := by simp [numBytes, List.range_succ]
theorem ofNat_eq {a b : Nat} (h : a % 256 = b % 256) : UInt8.ofNat a = UInt8.ofNat b := by
  apply UInt8.toNat_inj.1
  rw [UInt8.toNat_ofNat', UInt8.toNat_ofNat']
  exact h
theorem set_twoJ (A R : List UInt8) (a b x y : UInt8) (hA : A.length = 10) : ((A ++ ([a, b] ++ R)).set 10 x).set 11 y = A ++ ([x, y] ++ R) := by
  rw [List.set_append_right _ _ (by omega), List.set_append_right _ _ (by omega), hA]
  rfl
theorem bA_doc {h : Ip} {q S nd : Nat} {dz : Int} (he : pktE h = 0) (hv : h.v = false) (hq : q = S / 4) (hS : S = 20 + h.no) (hnd : nd = h.nd) (hdz : dz = if h.df then 16384 else 0) :
    [b8 (64 + (q : Int)), b8 h.tos] ++ ([b8 (((S : Int) + (nd : Int)) / 256), b8 ((S : Int) + (nd : Int))] ++ ([b8 (h.id / 256), b8 h.id] ++ ([b8 (dz / 256), b8 dz] ++ [b8 h.ttl, b8 h.p]))) = bA h := by
  obtain ⟨hr, hs⟩ := pktE_zero he
  obtain ⟨⟨q1, q2⟩, ⟨q3, q4⟩, ⟨q5, q6⟩, -, qq⟩ := right_facts hr
  obtain ⟨⟨q7, q8⟩, q9, q10⟩ := qq hv
  have e : bA h = numBytes (64 + (20 + h.no) / 4) 1 1 ++ (numBytes h.tos.toNat 1 1 ++ (numBytes (20 + h.no + h.nd) 2 2 ++ (numBytes h.id.toNat 2 2 ++ (numBytes (if h.df then 16384 else 0) 2 2 ++ (numBytes h.ttl.toNat 1 1 ++ numBytes h.p.toNat 1 1))))) := by
    unfold bA fourF fldB; simp
  have hd : dz = (((if h.df then 16384 else 0) : Nat) : Int) := by rw [hdz]; cases h.df <;> rfl
  have e1 : (64 : Int) + (q : Int) = ((64 + (20 + h.no) / 4 : Nat) : Int) := by rw [hq, hS]; omega
  have e2 : (S : Int) + (nd : Int) = ((20 + h.no + h.nd : Nat) : Int) := by rw [hS, hnd]; omega
  rw [e, e1, e2, hd, b8_natJ, b8_of q5, b8_d256, b8_natJ, b8_hi q7, b8_of q7, b8_d256, b8_natJ, b8_of q3, b8_of q1]
  simp only [numI1, numI2, List.cons_append, List.nil_append]
/-- the document's list of a packet of four, ahead of its sum. -/
def doc4 (h : Ip) (O sB dB : List UInt8) (q S nd : Nat) (dz : Int) : List UInt8 := [b8 (64 + (q : Int)), b8 h.tos] ++ [b8 (((S : Int) + (nd : Int)) / 256), b8 ((S : Int) + (nd : Int))] ++ [b8 (h.id / 256), b8 h.id] ++ [b8 (dz / 256), b8 dz] ++ [b8 h.ttl, b8 h.p, 0, 0] ++ sB ++ dB ++ O
theorem doc4_parts {h : Ip} {O sB dB : List UInt8} {q S nd : Nat} {dz : Int} (he : pktE h = 0) (hv : h.v = false) (hq : q = S / 4) (hS : S = 20 + h.no) (hnd : nd = h.nd) (hdz : dz = if h.df then 16384 else 0) (hs : sB = h.sb.take 4) (hd : dB = h.db.take 4) :
    doc4 h O sB dB q S nd dz = bA h ++ ([0, 0] ++ bR h O) := by
  rw [← bA_doc he hv hq hS hnd hdz]
  unfold doc4 bR
  rw [hs, hd]
  simp only [List.append_assoc, List.cons_append, List.nil_append]
theorem doc4_head {h : Ip} {O sB dB : List UInt8} {q S nd : Nat} {dz : Int} (he : pktE h = 0) (hv : h.v = false) (hq : q = S / 4) (hS : S = 20 + h.no) (hnd : nd = h.nd) (hdz : dz = if h.df then 16384 else 0) (hs : sB = h.sb.take 4) (hd : dB = h.db.take 4) :
    headS (doc4 h O sB dB q S nd dz) = smH h O := by
  rw [doc4_parts he hv hq hS hnd hdz hs hd]
  exact headS_parts _ _ _ (len_bA h) rfl
theorem doc4_all {h : Ip} {O D sB dB : List UInt8} {q S nd : Nat} {dz N : Int} (he : pktE h = 0) (hv : h.v = false) (hq : q = S / 4) (hS : S = 20 + h.no) (hnd : nd = h.nd) (hdz : dz = if h.df then 16384 else 0) (hs : sB = h.sb.take 4) (hd : dB = h.db.take 4) (ls : h.sb.length = 16) (ld : h.db.length = 16) (hO : O.length = h.no) (hD : D.length = h.nd)
    (hN : N = ((headS (doc4 h O sB dB q S nd dz) : Nat) : Int)) : ((doc4 h O sB dB q S nd dz).set 10 (b8 (N / 256))).set 11 (b8 N) ++ D = pktB h O D := by
  rw [doc4_head he hv hq hS hnd hdz hs hd] at hN
  rw [pkt4_eq he hv ls ld hO hD, doc4_parts he hv hq hS hnd hdz hs hd, set_twoJ _ _ _ _ _ _ (len_bA h), hN, b8_d256, b8_natJ]
  unfold hd4
  rw [numI2]
/-- the document's list of a packet of six. -/
theorem doc6_all {h : Ip} {O D : List UInt8} {T L nd : Nat} {u0 u1 : UInt8} (he : pktE h = 0) (hv : h.v = true) (ls : h.sb.length = 16) (ld : h.db.length = 16) (hD : D.length = h.nd) (hT : h.tos = (T : Int)) (hL : h.lab = (L : Int)) (hnd : nd = h.nd)
    (h0 : u0 = UInt8.ofNat (96 + T / 16)) (h1 : u1 = UInt8.ofNat (T * 16 + L / 65536)) :
    [u0, u1] ++ [b8 (h.lab / 256), b8 h.lab] ++ [b8 ((nd : Int) / 256), b8 (nd : Int)] ++ [b8 h.p, b8 h.ttl] ++ h.sb ++ h.db ++ D = pktB h O D := by
  obtain ⟨hr, hs⟩ := pktE_zero he
  obtain ⟨⟨q1, q2⟩, ⟨q3, q4⟩, ⟨q5, q6⟩, qq, -⟩ := right_facts hr
  obtain ⟨q7, q8⟩ := qq hv
  rw [pkt6_eq he hv ls ld hD, hd6_parts, numI4, numI2, numI1, numI1, b8_of q1, b8_of q3, b8_d256, b8_natJ, hL, b8_d256, b8_natJ, hT, h0, h1, ← hnd]
  have e1 : UInt8.ofNat ((1610612736 + (T : Int).toNat * 1048576 + (L : Int).toNat) / 16777216) = UInt8.ofNat (96 + T / 16) := ofNat_eq (by omega)
  have e2 : UInt8.ofNat ((1610612736 + (T : Int).toNat * 1048576 + (L : Int).toNat) / 65536) = UInt8.ofNat (T * 16 + L / 65536) := ofNat_eq (by omega)
  have e3 : UInt8.ofNat ((1610612736 + (T : Int).toNat * 1048576 + (L : Int).toNat) / 256) = UInt8.ofNat (L / 256) := ofNat_eq (by omega)
  have e4 : UInt8.ofNat (1610612736 + (T : Int).toNat * 1048576 + (L : Int).toNat) = UInt8.ofNat L := ofNat_eq (by omega)
  rw [e1, e2, e3, e4]
  simp only [List.append_assoc, List.cons_append, List.nil_append]
end Go.Proofs.Ytdlilokmfekndaa

end
section
/-
  A packet's bytes read again are the packet.
-/
namespace Go.Proofs.Ytdlilokmfekndaa
open Go.RowKit
set_option linter.unusedVariables false
set_option linter.unusedSimpArgs false

theorem pad_four {l : List UInt8} (hl : l.length = 16) (h : rightL false l = true) : pad16 (l.take 4) = l := by
  have h' : maskL l 32 = l := by
    unfold rightL at h
    rw [Bool.false_or, beq_iff_eq] at h
    exact h.symm
  have h0 := (right_four l hl).1 h'
  unfold pad16
  apply List.ext_getElem
  · simp [hl]
  · intro i h1 h2
    by_cases h4 : i < 4
    · rw [List.getElem_append_left (by simp [hl]; omega), List.getElem_take]
    · rw [List.getElem_append_right (by simp [hl]; omega), List.getElem_replicate]
      exact (h0 i h2 (by omega)).symm
theorem pad_full {l : List UInt8} (hl : l.length = 16) : pad16 l = l := by
  unfold pad16
  rw [hl]; simp
theorem right_parts {h : Ip} (hr : rightH h = true) : rightL h.sv h.sb = true ∧ h.sv = h.v ∧ rightL h.dv h.db = true ∧ h.dv = h.v ∧ (h.v = false → h.lab = 0) ∧ (h.v = true → h.id = 0 ∧ h.df = false ∧ h.no = 0) := by
  unfold rightH at hr
  revert hr
  cases rightL h.sv h.sb <;> cases rightL h.dv h.db <;> cases hv : h.v <;> cases h.sv <;> cases h.dv <;> simp <;> intros <;> simp [*]
theorem hd4_src {h : Ip} {O T : List UInt8} (ls : h.sb.length = 16) (ld : h.db.length = 16) : ((hd4 h O ++ T).drop 12).take 4 = h.sb.take 4 ∧ ((hd4 h O ++ T).drop 16).take 4 = h.db.take 4 ∧ (hd4 h O ++ T).drop 20 = O ++ T := by
  have hA := len_bA h
  have l4 : (h.sb.take 4).length = 4 := by simp [ls]
  have l5 : (h.db.take 4).length = 4 := by simp [ld]
  have e : hd4 h O ++ T = (bA h ++ numBytes (smH h O) 2 2) ++ (h.sb.take 4 ++ (h.db.take 4 ++ (O ++ T))) := by unfold hd4 bR; simp
  have l12 : (bA h ++ numBytes (smH h O) 2 2).length = 12 := by simp [hA, length_numBytes]
  have l16 : ((bA h ++ numBytes (smH h O) 2 2) ++ h.sb.take 4).length = 16 := by rw [List.length_append, l12, l4]
  have l20 : (((bA h ++ numBytes (smH h O) 2 2) ++ h.sb.take 4) ++ h.db.take 4).length = 20 := by rw [List.length_append, l16, l5]
  refine ⟨?_, ?_, ?_⟩
  · rw [e, List.drop_left' l12, List.take_left' l4]
  · rw [e, ← List.append_assoc, List.drop_left' l16, List.take_left' l5]
  · rw [e, ← List.append_assoc, ← List.append_assoc, List.drop_left' l20]
theorem hd6_src {h : Ip} {T : List UInt8} (ls : h.sb.length = 16) (ld : h.db.length = 16) : ((hd6 h ++ T).drop 8).take 16 = h.sb ∧ ((hd6 h ++ T).drop 24).take 16 = h.db ∧ (hd6 h ++ T).drop 40 = T := by
  have hA := len_six8 h
  have e : hd6 h ++ T = fldB (sixF h) ++ (h.sb ++ (h.db ++ T)) := by unfold hd6; simp
  have l24 : (fldB (sixF h) ++ h.sb).length = 24 := by rw [List.length_append, hA, ls]
  refine ⟨?_, ?_, ?_⟩
  · rw [e, List.drop_left' hA, List.take_left' ls]
  · rw [e, ← List.append_assoc, List.drop_left' l24, List.take_left' ld]
  · exact List.drop_left' (len_hd6 h ls ld)
theorem back4 {h : Ip} {O D : List UInt8} (he : pktE h = 0) (hv : h.v = false) (ls : h.sb.length = 16) (ld : h.db.length = 16) (hO : O.length = h.no) (hD : D.length = h.nd) (ao ad : Option Addr) (co cd : Nat) :
    p4H (pktB h O D) ao co ad cd = othH h ao co ad cd ∧ ((pktB h O D).drop 20).take (4 * (nmB (pktB h O D) 0 1 % 16) - 20) = O ∧ (pktB h O D).drop (4 * (nmB (pktB h O D) 0 1 % 16)) = D := by
  obtain ⟨hr, hs⟩ := pktE_zero he
  obtain ⟨⟨q1, q2⟩, ⟨q3, q4⟩, ⟨q5, q6⟩, -, qq⟩ := right_facts hr
  obtain ⟨⟨q7, q8⟩, q9, q10⟩ := qq hv
  obtain ⟨r1, r2, r3, r4, r5, -⟩ := right_parts hr
  have t5 := r5 hv
  clear r5
  rw [hv] at r2 r4
  rw [r2] at r1
  rw [r4] at r3
  have hlP := len_hd4 h O ls ld
  rw [pkt4_eq he hv ls ld hO hD]
  have F := four_of he hv (l := hd4 h O ++ D) (pre_app _ _ _ (by omega))
  obtain ⟨s1, s2, s3⟩ := hd4_src (O := O) (T := D) ls ld
  have e4 : 4 * ((64 + (20 + h.no) / 4) % 16) = 20 + h.no := by omega
  have eL : (hd4 h O ++ D).length - (20 + h.no) = h.nd := by rw [List.length_append, hlP, hO, hD]; omega
  have en : 20 + h.no - 20 = h.no := by omega
  refine ⟨?_, ?_, ?_⟩
  · unfold p4H othH
    rw [F.a, F.p, F.ttl, F.tos, F.id, F.df, e4, s1, s2, eL, en, pad_four ls r1, pad_four ld r3]
    obtain ⟨v, sv, sb, dv, db, p, ttl, tos, id, df, lab, a1, n1, c1, a2, n2, c2⟩ := h
    simp only at hv r2 r4 t5 q1 q3 q5 q7 ⊢
    subst hv r2 r4
    rw [t5]
    congr 1
    · omega
    · omega
    · omega
    · omega
    · cases df <;> simp
  · rw [F.a, e4, s3, en, List.take_left' hO]
  · rw [F.a, e4, List.drop_left' (by rw [hlP, hO])]
theorem back6 {h : Ip} {O D : List UInt8} (he : pktE h = 0) (hv : h.v = true) (ls : h.sb.length = 16) (ld : h.db.length = 16) (hD : D.length = h.nd) (ad : Option Addr) (cd : Nat) :
    p6H (pktB h O D) ad cd = othH h none 0 ad cd ∧ (pktB h O D).drop 40 = D := by
  obtain ⟨hr, hs⟩ := pktE_zero he
  obtain ⟨⟨q1, q2⟩, ⟨q3, q4⟩, ⟨q5, q6⟩, qq, -⟩ := right_facts hr
  obtain ⟨q7, q8⟩ := qq hv
  obtain ⟨r1, r2, r3, r4, -, r5⟩ := right_parts hr
  obtain ⟨t5, t6, t7⟩ := r5 hv
  clear r5
  rw [hv] at r2 r4
  have hlP := len_hd6 h ls ld
  rw [pkt6_eq he hv ls ld hD]
  have F := six_of he hv (l := hd6 h ++ D) (pre_app _ _ _ (by omega))
  obtain ⟨s1, s2, s3⟩ := hd6_src (T := D) ls ld
  have eL : (hd6 h ++ D).length - 40 = h.nd := by rw [List.length_append, hlP, hD]; omega
  refine ⟨?_, s3⟩
  unfold p6H othH
  rw [F.a, F.p, F.ttl, s1, s2, eL, pad_full ls, pad_full ld]
  obtain ⟨v, sv, sb, dv, db, p, ttl, tos, id, df, lab, a1, n1, c1, a2, n2, c2⟩ := h
  simp only at hv r2 r4 t5 t6 t7 q1 q3 q5 q7 q6 q8 ⊢
  subst hv r2 r4
  rw [t5, t6, t7]
  congr 1
  · omega
  · omega
  · omega
  · omega
theorem back_any {w w' : World} {X : Array Value} {h : Ip} {O D : List UInt8} (he : pktE h = 0) (ls : h.sb.length = 16) (ld : h.db.length = 16) (hO : O.length = h.no) (hD : D.length = h.nd) (hp : PktA w w' (pktB h O D) X) :
    ∃ ao co ad cd, IpV X (othH h ao co ad cd) ∧ Byt w' w'.heap.size ao O ∧ Byt w' w'.heap.size ad D := by
  have hlen := pk_len he ls ld hO hD
  have hne : pktB h O D ≠ [] := fun e => by
    rw [e] at hlen
    unfold sizeN at hlen
    split at hlen <;> simp at hlen <;> omega
  cases hv : h.v
  · have hlP := len_hd4 h O ls ld
    have h4 := first4 he hv (l := pktB h O D) (by rw [pkt4_eq he hv ls ld hO hD, pre_app _ _ _ (by omega)]) hne
    rcases hp with ⟨-, -, ao, co, ad, cd, hx, h1, h2⟩ | ⟨h6, -⟩
    · obtain ⟨b1, b2, b3⟩ := back4 he hv ls ld hO hD ao ad co cd
      rw [b1] at hx
      rw [b2] at h1
      rw [b3] at h2
      exact ⟨ao, co, ad, cd, hx, h1.1, h2.1⟩
    · omega
  · have hlP := len_hd6 h ls ld
    have h4 := first6 he hv (l := pktB h O D) (by rw [pkt6_eq he hv ls ld hD, pre_app _ _ _ (by omega)]) hne
    have hno := ((right_parts (pktE_zero he).1).2.2.2.2.2 hv).2.2
    have hOn : O = [] := List.eq_nil_of_length_eq_zero (by omega)
    rcases hp with ⟨h6, -⟩ | ⟨-, -, ad, cd, hx, h2⟩
    · omega
    · obtain ⟨b1, b3⟩ := back6 (O := O) he hv ls ld hD ad cd
      rw [b1] at hx
      rw [b3] at h2
      exact ⟨none, 0, ad, cd, hx, by rw [hOn]; exact Byt.nil _ _ _, h2.1⟩
end Go.Proofs.Ytdlilokmfekndaa

end
section
/-
  The walk of the document's Put: packets of four.
-/
namespace Go.Proofs.Ytdlilokmfekndaa
open Go.RowKit
attribute [local go_sem ↓] exec_span exec_put exec_build heap_alloc_new heap_old
attribute [local go_sem] spanQ_ptr spanC_some heap_of_drew heap_of_drewN rs_arr rs_ad rs_ip rs_rip putAt_ptr putOk_ptr oldOk_some World.setRow_alloc_new
set_option maxRecDepth 100000
set_option linter.unusedVariables false
set_option linter.unusedSimpArgs false

theorem OwnB.low {w : World} {base base' : Nat} {v : Value} {l : List UInt8} (h : OwnB w base v l) (hb : base' ≤ base) : OwnB w base' v l := by
  refine ⟨h.1, ?_⟩
  rcases h.2 with h0 | ⟨g, cap, cur, e, hg, hr⟩
  · exact .inl h0
  · exact .inr ⟨g, cap, cur, e, Nat.le_trans hb hg, hr⟩
theorem step_app_bytes {ops : Array Oper} {o : Oper} {a : Act} {w : World} {K' : Act → World → Prop} {Q : Exit → Act → World → Prop} {E : Prop} (hgd : o.guard = none) (s x : Operand)
    (ho : o.op = .call { callee := .builtin .append, args := #[s, x], argTypes := #[22, 22] }) (base : Nat) (v : Value) (l0 l : List UInt8) (B c : Nat) (A : Option Addr)
    (hs : a.eval s = v) (hx : a.eval x = .slice A l.length c) (hown : OwnB w base v l0) (hb : Byt w B A l) (hnil : A = none → c = 0) (hlen : l0.length + l.length ≤ 140737488355328) (hbase : base ≤ w.heap.size)
    (h : ∀ v' w', OwnB w' base v' (l0 ++ l) → w.grownBy w' v.ownBlock → (v'.ownBlock = v.ownBlock ∨ v'.ownBlock = some w.heap.size) → K' (a.put o.dst v') w') : if Region.wanted o (yielded ops a.tmps) = true then Oper.wp Try.prog o a w K' Q else E := by
  have hw : Region.wanted o (yielded ops a.tmps) = true := by simp [Region.wanted, hgd]
  rw [if_pos hw]
  obtain ⟨v', w', hr, h2, h3, h4⟩ := run_app_bytes w base o.type v l0 l B c A hown hb hnil hlen hbase
  unfold Oper.wp execOp
  simp only [ho, resolve, invoke, builtin, Sem.run_bind, Sem.run_pure, Result.andThen_ok, List.map_toArray, List.map_cons, List.map_nil, hs, hx, hr]
  exact h v' w' h2 h3 h4

end Go.Proofs.Ytdlilokmfekndaa

end
section
/-
  The walk of the document's Put: packets of six, and all.
-/
namespace Go.Proofs.Ytdlilokmfekndaa
open Go.RowKit
attribute [local go_sem ↓] exec_span exec_put exec_build heap_alloc_new heap_old
attribute [local go_sem] spanQ_ptr spanC_some heap_of_drew heap_of_drewN rs_arr rs_ad rs_ip rs_rip putAt_ptr putOk_ptr oldOk_some World.setRow_alloc_new
set_option maxRecDepth 100000
set_option linter.unusedVariables false
set_option linter.unusedSimpArgs false

theorem or96 : ∀ {q : Nat}, q < 16 → bits BinOp.or IntKind.i64 96 (q : Int) = 96 + (q : Int) := by decide
end Go.Proofs.Ytdlilokmfekndaa

end
