/-
  The walks of the document's own put2 and of both sums that data begin with (Pseudo).
-/
import Derived.Test.YtihakjcccbionaaGreatDoorIw
namespace Go.Proofs.YtihakjcccbionaaGreatDoor
open Go.RowKit
attribute [local go_sem ↓] exec_span exec_put exec_build heap_alloc_new heap_old
attribute [local go_sem] spanQ_ptr spanC_some heap_of_drew heap_of_drewN rs_arr rs_ad rs_ip rs_rip putAt_ptr putOk_ptr oldOk_some World.setRow_alloc_new
set_option maxRecDepth 100000
set_option linter.unusedVariables false
set_option linter.unusedSimpArgs false

/-- a number's lowest byte. -/
def b8 (z : Int) : UInt8 := UInt8.ofNat (z % 256).toNat
theorem b8_eq (z : Int) : IntKind.u8.wrap z = ((b8 z).toNat : Int) := by
  have h : (z % 256).toNat < 256 := by omega
  unfold b8
  rw [UInt8.toNat_ofNat_of_lt' (by show _ < 256; exact h), IntKind.wrap_u8]
  omega

set_option maxHeartbeats 1000000 in
theorem put2_any (w : World) (base : Nat) (v : Value) (l0 : List UInt8) (z : Int) (ho : OwnB w base v l0) (hb : base ≤ w.heap.size) (hl : l0.length ≤ 70000000000000) :
    Calls Tryz.prog 48 #[v, .int .i64 z] w fun e w' => ∃ v', e = .returned v' ∧ OwnB w' base v' (l0 ++ [b8 (z / 256), b8 z]) ∧ Below base w w' := by
  obtain ⟨u, hu⟩ : ∃ u, u = b8 (z / 256) := ⟨_, rfl⟩
  obtain ⟨t, ht⟩ : ∃ t, t = b8 z := ⟨_, rfl⟩
  have e1 := b8_eq (z / 256)
  have e2 := b8_eq z
  rw [← hu] at e1 ⊢
  rw [← ht] at e2 ⊢
  have HO := hide ho
  clear ho hu ht
  go_enter Tryz.func48, Tryz.ntmps48
  go_wp2_with (at_builtin; refine wpList_app_bytes rfl (.tmp 5) (.tmp 11) rfl base v l0 [u, t] (w.heap.size + 1) 2 (some ⟨w.heap.size, 0, none⟩) rfl rfl (by exact HO.out.alloc _) (by exact Byt.lit w [u, t] _ _ (0, 0) rfl) (fun e => by cases e) (by simp; omega) (by simp; omega) ?_)
  intro v' w' hown hgrow hat
  have hB : Below base w w' := ((Below.refl _ _).alloc hb _).grown hgrow (by simp; omega) (fun g hg => (World.ownsRow.lt HO.out g hg).1)
  have H1 := hide hown
  have H2 := hide hB
  clear hown hgrow hat hB
  go_wp2
  go_ret
  exact ⟨_, rfl, H1.out, H2.out⟩

/-- how many bytes an address of the packet has. -/
def adN (h : Ip) : Nat := if h.v then 16 else 4
theorem adN_le (h : Ip) : adN h ≤ 16 := by unfold adN; split <;> omega
/-- the sum that its data begin with. -/
def pseS (h : Ip) : Nat := addS (addS (addS 0 (h.sb.take (adN h))) (h.db.take (adN h))) [b8 (h.p / 256), b8 h.p, b8 ((h.nd : Int) / 256), b8 (h.nd : Int)]
theorem pse_all (h : Ip) (ls : h.sb.length = 16) (ld : h.db.length = 16) : addS 0 (((h.sb.take (adN h) ++ h.db.take (adN h)) ++ [b8 (h.p / 256), b8 h.p]) ++ [b8 ((h.nd : Int) / 256), b8 (h.nd : Int)]) = pseS h := by
  have e : (adN h) % 2 = 0 := by unfold adN; split <;> rfl
  have e1 : (h.sb.take (adN h)).length = adN h := by rw [List.length_take, ls]; have := adN_le h; omega
  have e2 : (h.db.take (adN h)).length = adN h := by rw [List.length_take, ld]; have := adN_le h; omega
  unfold pseS
  rw [List.append_assoc, List.append_assoc, addS_append _ _ _ (by rw [e1]; exact e), addS_append _ _ _ (by rw [e2]; exact e)]
  rfl

set_option maxHeartbeats 2000000 in
theorem pseudo_any (w : World) (X : Array Value) (h : Ip) (x : IpV X h) (hnd : h.nd ≤ 140737488355328) :
    Calls Tryz.prog 70 #[.agg X] w fun e w' => e = .returned (.int .u16 ((pseS h : Nat) : Int)) ∧ Below w.heap.size w w' := by
  have hxs := x.size
  obtain ⟨W, hW, h1, hz, hb⟩ := one_block w (.cells X 51)
  have hc := x.cells h1
  have c0 := hc.c0
  have c35 := hc.c35
  have c42 := hc.c42
  have hs := (x.bytS h1 (B := W.heap.size) (by omega)).front (adN h)
  have hd := (x.bytD h1 (B := W.heap.size) (by omega)).front (adN h)
  have e1 : (h.sb.take (adN h)).length = adN h := by rw [List.length_take, x.ls]; have := adN_le h; omega
  have e2 : (h.db.take (adN h)).length = adN h := by rw [List.length_take, x.ld]; have := adN_le h; omega
  obtain ⟨s1, hs1⟩ : ∃ s, s = addS 0 (h.sb.take (adN h)) := ⟨_, rfl⟩
  obtain ⟨s2, hs2⟩ : ∃ s, s = addS s1 (h.db.take (adN h)) := ⟨_, rfl⟩
  have b1 : s1 ≤ 65535 := by rw [hs1]; exact addS_le _ _ (by omega)
  have b2 : s2 ≤ 65535 := by rw [hs2]; exact addS_le _ _ b1
  have HP : Hid (pseS h = addS s2 [b8 (h.p / 256), b8 h.p, b8 ((h.nd : Int) / 256), b8 (h.nd : Int)]) := hide (by rw [hs2, hs1]; rfl)
  have A1 := add_any 0 (some ⟨w.heap.size, 2, none⟩) 16 (h.sb.take (adN h)) W.heap.size W (by omega) (by rw [e1]; exact adN_le h) (by rw [e1]; have := adN_le h; omega) hs
  have A2 := fun n => add_any s1 (some ⟨w.heap.size, 19, none⟩) 16 (h.db.take (adN h)) W.heap.size (W.drewN n) b1 (by rw [e2]; exact adN_le h) (by rw [e2]; have := adN_le h; omega) (hd.drewN n)
  rw [e1, ← hs1] at A1
  rw [e2, ← hs2] at A2
  have q1 := b8_eq (h.p / 256)
  have q2 := b8_eq h.p
  have q3 := b8_eq ((h.nd : Int) / 256)
  have q4 := b8_eq (h.nd : Int)
  generalize b8 (h.p / 256) = u1 at q1 HP
  generalize b8 h.p = u2 at q2 HP
  generalize b8 ((h.nd : Int) / 256) = u3 at q3 HP
  generalize b8 (h.nd : Int) = u4 at q4 HP
  have A3 := fun (w1 : World) => add_any s2 (some ⟨w1.heap.size, 0, none⟩) 4 [u1, u2, u3, u4] (w1.heap.size + 1) (w1.alloc (.cells #[.int .u8 (u1.toNat : Int), .int .u8 (u2.toNat : Int), .int .u8 (u3.toNat : Int), .int .u8 (u4.toNat : Int)] 5)) b2 (by simp) (by simp) (Byt.lit w1 [u1, u2, u3, u4] _ _ (0, 0) rfl)
  have H1 := hide A1
  have H2 := hide A2
  have H3 := hide A3
  have HB := hide hb
  have hnd0 : (0 : Int) ≤ (h.nd : Int) := by omega
  obtain ⟨v, hv⟩ : ∃ v, v = h.v := ⟨_, rfl⟩
  rw [← hv] at c0
  have HV := hide hv
  clear hs hd e1 e2 hs1 hs2 A1 A2 A3 hc hv h1 hb hz
  cases v
  · have en : adN h = 4 := by unfold adN; rw [← HV.out]; rfl
    rw [en] at H1 H2
    go_enter Tryz.func70, Tryz.ntmps70
    go_wp2_with fail
    refine H1.out.mono ?_
    rintro e w1 ⟨rfl, n1, rfl⟩
    go_wp2_with fail
    refine (H2.out n1).mono ?_
    rintro e w1 ⟨rfl, n2, rfl⟩
    go_wp2_with fail
    refine (H3.out _).mono ?_
    rintro e w1 ⟨rfl, n3, rfl⟩
    go_wp2
    go_ret
    exact ⟨by rw [HP.out]; rfl, below_drewN ((below_drewN HB.out _).alloc (by have := HB.out.size; simpa using this) _) _⟩
  · have en : adN h = 16 := by unfold adN; rw [← HV.out]; rfl
    rw [en] at H1 H2
    go_enter Tryz.func70, Tryz.ntmps70
    go_wp2_with fail
    refine H1.out.mono ?_
    rintro e w1 ⟨rfl, n1, rfl⟩
    go_wp2_with fail
    refine (H2.out n1).mono ?_
    rintro e w1 ⟨rfl, n2, rfl⟩
    go_wp2_with fail
    refine (H3.out _).mono ?_
    rintro e w1 ⟨rfl, n3, rfl⟩
    go_wp2
    go_ret
    exact ⟨by rw [HP.out]; rfl, below_drewN ((below_drewN HB.out _).alloc (by have := HB.out.size; simpa using this) _) _⟩

set_option maxHeartbeats 2000000 in
theorem refpseudo_any (w : World) (X : Array Value) (h : Ip) (x : IpV X h) (hnd : h.nd ≤ 140737488355328) :
    Calls Tryz.prog 78 #[.agg X] w fun e w' => e = .returned (.int .u16 ((pseS h : Nat) : Int)) ∧ Below w.heap.size w w' := by
  have hxs := x.size
  obtain ⟨W, hW, h1, hz, hb⟩ := one_block w (.cells X 62)
  have hc := x.cells h1
  have c0 := hc.c0
  have hs := x.bytS h1 (B := W.heap.size) (by omega)
  have hd := x.bytD h1 (B := W.heap.size) (by omega)
  have HP := hide (pse_all h x.ls x.ld)
  obtain ⟨m, hm⟩ : ∃ m, m = adN h := ⟨_, rfl⟩
  have hm16 : m ≤ 16 := by rw [hm]; exact adN_le h
  rw [← hm] at HP
  have HS := hide hs
  have HD := hide hd
  have HB := hide hb
  have H1 := hide h1
  have HZ : Hid (W.heap.size = w.heap.size + 1) := hide hz
  have hnd0 : (0 : Int) ≤ (h.nd : Int) := by omega
  obtain ⟨v, hv⟩ : ∃ v, v = h.v := ⟨_, rfl⟩
  rw [← hv] at c0
  have HV := hide hv
  have HLS := hide x.ls
  have HLD := hide x.ld
  have HX := hide x
  have HM := hide hm
  clear hs hd hc hv h1 hb hz hm x
  obtain ⟨mi, hmi⟩ : ∃ mi : Int, mi = (m : Int) := ⟨_, rfl⟩
  have hmv : (v = false ∧ mi = 4) ∨ (v = true ∧ mi = 16) := by
    cases v
    · exact .inl ⟨rfl, by rw [hmi, HM.out]; unfold adN; rw [← HV.out]; rfl⟩
    · exact .inr ⟨rfl, by rw [hmi, HM.out]; unfold adN; rw [← HV.out]; rfl⟩
  rcases hmv with ⟨rfl, rfl⟩ | ⟨rfl, rfl⟩
  all_goals
    go_enter Tryz.func78, Tryz.ntmps78
    go_wp2_with fail
    rw [hmi]
    clear hmi c0
    go_loopw [4, 5] (fun v i wr => ∃ k : Nat, k ≤ m ∧ i = .int .i64 (k : Int) ∧ Hid (OwnB wr W.heap.size v (h.sb.take k)) ∧ Hid (Below W.heap.size W wr)) (fun _ i _ => m - (intOf i).toNat)
    case atStart => exact ⟨0, by omega, rfl, hide (OwnB.nil _ _), hide (Below.refl _ _)⟩
    case round =>
      obtain ⟨k, hk, rfl, hown, hbel⟩ := hrel
      by_cases hlt : k < m
      · obtain ⟨x, hx0⟩ : ∃ x, x = (h.sb)[k]'(by have := HLS.out; omega) := ⟨_, rfl⟩
        have hb' := HS.out.below hbel.out
        obtain ⟨b, off, e, -, hcell⟩ := hb' (by have := HLS.out; omega)
        cases e
        have hc0 : wr.cell? ⟨w.heap.size, 2 + k, none⟩ = some (.int .u8 (x.toNat : Int)) := by rw [hx0]; exact hcell k _
        have hk16 : (k : Int) < 16 := by omega
        have htk : (h.sb).take (k + 1) = (h.sb).take k ++ [x] := by rw [hx0]; exact List.take_succ_eq_append_getElem _
        have HT := hide htk
        have hZ : Hid (W.heap.size ≤ wr.heap.size) := hide hbel.out.size
        clear hcell hx0 hb' htk
        go_wp2_with (at_builtin; refine wpList_app_bytes rfl (.tmp 14) (.tmp 20) rfl W.heap.size u4 ((h.sb).take k) [x] (wr.heap.size + 1) 1 (some ⟨wr.heap.size, 0, none⟩) rfl rfl (by exact hown.out.alloc _) (by exact Byt.lit wr [x] _ _ (0, 0) rfl) (fun e => by cases e) (by simp; omega) (by have := hZ.out; simp; omega) ?_)
        intro v5 w5 hown5 hgrow5 hat5
        have hB5 : Below W.heap.size W w5 := by
          have hsz := hbel.out.size
          refine (hbel.out.alloc hsz _).grown hgrow5 (by simp; omega) (fun gg hg => ?_)
          exact (World.ownsRow.lt hown.out gg hg).1
        have HB5 := hide hB5
        have HO5 : Hid (OwnB w5 W.heap.size v5 ((h.sb).take (k + 1))) := hide (by rw [HT.out]; exact hown5)
        clear hown5 hgrow5 hat5 hB5 hown hbel
        go_wp2
        go_roundw
        case rel => exact ⟨k + 1, by omega, by go_num, HO5, HB5⟩
        case measure => simp [intOf]; omega
      · have hkm : k = m := by omega
        subst hkm
        clear hlt
        go_wp2
        go_loopw [4, 6] (fun v i wr => ∃ j : Nat, j ≤ k ∧ i = .int .i64 (j : Int) ∧ Hid (OwnB wr W.heap.size v (h.sb.take k ++ h.db.take j)) ∧ Hid (Below W.heap.size W wr)) (fun _ i _ => k - (intOf i).toNat)
        case atStart => exact ⟨0, by omega, rfl, hide (by simpa using hown.out), hbel⟩
        case round =>
          obtain ⟨j, hj, rfl, hown, hbel⟩ := hrel
          by_cases hlt : j < k
          · obtain ⟨x, hx0⟩ : ∃ x, x = (h.db)[j]'(by have := HLD.out; omega) := ⟨_, rfl⟩
            have hb' := HD.out.below hbel.out
            obtain ⟨b, off, e, -, hcell⟩ := hb' (by have := HLD.out; omega)
            cases e
            have hc0 : wr.cell? ⟨w.heap.size, 19 + j, none⟩ = some (.int .u8 (x.toNat : Int)) := by rw [hx0]; exact hcell j _
            have hj16 : (j : Int) < 16 := by omega
            have htj : (h.db).take (j + 1) = (h.db).take j ++ [x] := by rw [hx0]; exact List.take_succ_eq_append_getElem _
            have HT := hide htj
            have hZ : Hid (W.heap.size ≤ wr.heap.size) := hide hbel.out.size
            clear hcell hx0 hb' htj
            go_wp2_with (at_builtin; refine wpList_app_bytes rfl (.tmp 27) (.tmp 33) rfl W.heap.size u4 (h.sb.take k ++ (h.db).take j) [x] (wr.heap.size + 1) 1 (some ⟨wr.heap.size, 0, none⟩) rfl rfl (by exact hown.out.alloc _) (by exact Byt.lit wr [x] _ _ (0, 0) rfl) (fun e => by cases e) (by simp; omega) (by have := hZ.out; simp; omega) ?_)
            intro v5 w5 hown5 hgrow5 hat5
            have hB5 : Below W.heap.size W w5 := by
              have hsz := hbel.out.size
              refine (hbel.out.alloc hsz _).grown hgrow5 (by simp; omega) (fun gg hg => ?_)
              exact (World.ownsRow.lt hown.out gg hg).1
            have HB5 := hide hB5
            have HO5 : Hid (OwnB w5 W.heap.size v5 (h.sb.take k ++ (h.db).take (j + 1))) := hide (by rw [HT.out]; exact hown5)
            clear hown5 hgrow5 hat5 hB5 hown hbel
            go_wp2
            go_roundw
            case rel => exact ⟨j + 1, by omega, by go_num, HO5, HB5⟩
            case measure => simp [intOf]; omega
          · have hjk : j = k := by omega
            subst hjk
            clear hlt
            obtain ⟨A1, c1, rfl, hlc1, hby1, -, -⟩ := hown.out.shape
            have hlen1 : (h.sb.take j ++ h.db.take j).length ≤ 32 := by simp; omega
            have x1 := HX.out.cells (hbel.out.block w.heap.size (by have := HZ.out; omega) |>.trans H1.out)
            have k35 := x1.c35
            have P1 := hide (put2_any _ W.heap.size _ _ h.p hown.out hbel.out.size (by omega))
            generalize (h.sb.take j ++ h.db.take j).length = n1 at P1 hlc1 hlen1 ⊢
            have hL32 : Hid ((h.sb.take j ++ h.db.take j).length ≤ 32) := hide (by simp; omega)
            clear hlc1 hby1 x1 hown hlen1
            go_wp2_with fail
            refine P1.out.mono ?_
            rintro e w2 ⟨v2, rfl, ho2, hb2⟩
            have hb2' : Below W.heap.size W w2 := hbel.out.trans hb2
            have x2 := HX.out.cells (hb2'.block w.heap.size (by have := HZ.out; omega) |>.trans H1.out)
            have k42 := x2.c42
            have P2 := hide (put2_any _ W.heap.size _ _ (h.nd : Int) ho2 hb2'.size (by have := hL32.out; simp; omega))
            have HB2 := hide hb2'
            clear ho2 hb2 hb2' x2 k35 P1 hbel
            go_wp2_with fail
            refine P2.out.mono ?_
            rintro e w3 ⟨v3, rfl, ho3, hb3⟩
            have hb3' : Below W.heap.size W w3 := HB2.out.trans hb3
            have HP3 := HP.out
            have hl3 : (((h.sb.take j ++ h.db.take j) ++ [b8 (h.p / 256), b8 h.p]) ++ [b8 ((h.nd : Int) / 256), b8 (h.nd : Int)]).length ≤ 40 := by have := hL32.out; simp; omega
            generalize (((h.sb.take j ++ h.db.take j) ++ [b8 (h.p / 256), b8 h.p]) ++ [b8 ((h.nd : Int) / 256), b8 (h.nd : Int)]) = L at ho3 HP3 hl3
            obtain ⟨A3, c3, rfl, hlc3, hby3, -, -⟩ := ho3.shape
            have P3 := hide (refadd_any 0 A3 c3 L w3.heap.size w3 (by omega) hlc3 (by omega) hby3)
            have HB3 := hide hb3'
            rw [HP3] at P3
            generalize L.length = n3 at P3 ⊢
            clear ho3 hb3 hb3' HP3 hl3 hlc3 hby3 k42 P2
            go_wp2_with fail
            refine P3.out.mono ?_
            rintro e w4 ⟨rfl, rfl⟩
            go_wp2
            go_ret
            exact ⟨rfl, HB.out.trans (HB3.out.mono HB.out.size)⟩
end Go.Proofs.YtihakjcccbionaaGreatDoor
