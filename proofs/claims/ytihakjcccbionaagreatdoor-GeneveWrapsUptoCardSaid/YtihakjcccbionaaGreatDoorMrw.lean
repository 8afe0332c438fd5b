import Derived.Test.YtihakjcccbionaaGreatDoorRow
import Derived.Test.YtihakjcccbionaaGreatDoorMad
import Derived.OpenShut
import Derived.Deep.Slices
import Derived.Test.YtihakjcccbionaaGreatDoorMih
import Derived.Test.YtihakjcccbionaaGreatDoorMka
section
/-
  Words for the rows whose arguments are addresses: opened to their kind and their sixteen bytes.
-/
namespace Go.Proofs.YtihakjcccbionaaGreatDoor
open Go.ChangeShapes Go.WideShapes Go.ChangeAt Go.RowKit
set_option maxRecDepth 100000
set_option linter.unusedVariables false
set_option linter.constructorNameAsVariable false

theorem cells_ad : Tryz.prog.cellsOf 24 = 17 := by kernel_rfl
theorem cells_arr : Tryz.prog.cellsOf 22 = 16 := by kernel_rfl
theorem cells_bool : Tryz.prog.cellsOf 4 = 1 := by kernel_rfl
theorem fields_of_ad : ∃ f0 f1 : Field, Tryz.prog.underlying 24 = some (.struct #[f0, f1]) ∧ f0.type = 4 ∧ f0.offset = 0 ∧ f1.type = 22 ∧ f1.offset = 1 := ⟨_, _, Tryz.underlying24, rfl, rfl, rfl, rfl⟩

theorem trod_bytes16 {H : Type} {enc : TypeId × Value → H} {W : World} {base : Nat} {spare : Nat → Bool} {held : Bool} {fuel : Nat} {cs : List Value} {x : DataW H × List MemPlace} (h : DataW.trod enc Tryz.prog W base spare held fuel 22 cs = some x) :
    ∃ l : List UInt8, l.length = 16 ∧ cs = l.map byteV := by
  obtain ⟨xs, m, _, _, hlen, hxl, hg⟩ := DataW.trod_array Tryz.underlying22 h
  rw [cells_arr] at hlen
  rw [cells_u8] at hg
  have each : ∀ i (hi : i < cs.length), ∃ u : UInt8, cs[i] = byteV u := fun i hi => by
    have h1 := hg i (by omega)
    have hx : xs[i]? = some (xs[i]'(by omega)) := List.getElem?_eq_getElem (by omega)
    rw [hx, Nat.mul_one, List.drop_eq_getElem_cons hi] at h1
    obtain ⟨z, hz, _, hwf⟩ := DataW.trod_int Tryz.underlying5 h1
    have hz' : cs[i] = .int .u8 z := by
      have : [cs[i]] = [Value.int .u8 z] := hz
      simpa using this
    have hb := bounds_u8 hwf
    refine ⟨UInt8.ofNat z.toNat, ?_⟩
    rw [hz', byteV, UInt8.toNat_ofNat_of_lt' (by show _ < 256; omega)]
    congr 1
    omega
  have all : ∀ (L : List Value), (∀ i (hi : i < L.length), ∃ u : UInt8, L[i] = byteV u) → ∃ l : List UInt8, l.length = L.length ∧ L = l.map byteV := by
    intro L
    induction L with
    | nil => exact fun _ => ⟨[], rfl, rfl⟩
    | cons a L ih =>
      intro h
      obtain ⟨u, hu⟩ := h 0 (by simp)
      obtain ⟨l, hl, hL⟩ := ih (fun i hi => by
        obtain ⟨u, hu⟩ := h (i + 1) (by simp; omega)
        exact ⟨u, by simpa using hu⟩)
      have hu' : a = byteV u := hu
      exact ⟨u :: l, by simp [hl], by rw [List.map_cons, ← hL, hu']⟩
  obtain ⟨l, hl, hL⟩ := all cs each
  exact ⟨l, by omega, hL⟩
theorem open_ad {H : Type} {enc : TypeId × Value → H} {W : World} {r : Reach} {b0 : Nat} {base : Nat} {spare : Nat → Bool} {held : Bool} {v : Value} {d : DataW H} {p : List MemPlace}
    (hv : Value.okWide Tryz.prog W r b0 24 v) (h : DataW.Trod enc Tryz.prog W base spare held 24 v d p) :
    ∃ X k l, v = .agg X ∧ AdV X k l := by
  obtain ⟨f0, f1, hu, t0, o0, t1, o1⟩ := fields_of_ad
  obtain ⟨cs, rfl, hsz⟩ := okWide_struct hu hv
  obtain ⟨fuel, hf⟩ := h
  obtain ⟨xs, n, rfl, _, hlen, hxl, hg⟩ := DataW.trod_struct hu hf
  have hg0 := hg 0 f0 rfl
  have hg1 := hg 1 f1 rfl
  rw [t0, o0, cells_bool] at hg0
  rw [t1, o1, cells_arr] at hg1
  match xs, hxl with
  | [y0, y1], _ =>
    have hg0' : DataW.trod enc Tryz.prog W base spare held n 4 (((Value.agg cs).cells.toList.drop 0).take 1) = some y0 := hg0
    have hg1' : DataW.trod enc Tryz.prog W base spare held n 22 (((Value.agg cs).cells.toList.drop 1).take 16) = some y1 := hg1
    obtain ⟨k, hk, _⟩ := DataW.trod_bool Tryz.underlying4 hg0'
    obtain ⟨l, hl, hcs⟩ := trod_bytes16 hg1'
    have hc : cs.toList = adL k l := by
      have e : cs.toList = (cs.toList.drop 0).take 1 ++ (cs.toList.drop 1).take 16 := by
        rw [List.drop_zero, List.take_of_length_le (l := cs.toList.drop 1) (by rw [List.length_drop, Array.length_toList, hsz, cells_ad]; decide), List.take_append_drop]
      rw [e]
      have hk' : (cs.toList.drop 0).take 1 = [.bool k] := hk
      have hl' : (cs.toList.drop 1).take 16 = l.map byteV := hcs
      rw [hk', hl']
      rfl
    have hX : cs = (adL k l).toArray := by rw [← hc]
    exact ⟨cs, k, l, rfl, by rw [hX]; exact AdV.mk' hl⟩
end Go.Proofs.YtihakjcccbionaaGreatDoor

end
section
/-
  Words for the rows whose arguments hold floats.
-/
namespace Go.Proofs.YtihakjcccbionaaGreatDoor
open Go.ChangeShapes Go.WideShapes Go.ChangeAt Go.RowKit Go.Deep

theorem wf_lt {b : Nat} (h : (Lit.float .f64 b).wf = true) : b < 2 ^ 64 := by simpa [Lit.wf] using h

theorem trod_fl {H : Type} {enc : TypeId × Value → H} {P : Program} {w : World} {base : Nat} {sp : Nat → Bool} {held : Bool} {t : TypeId} {v : Value} {x : DataW H × List MemPlace} {n : Nat} (ht : P.underlying t = some (.float .f64))
    (h : DataW.trod enc P w base sp held n t [v] = some x) : ∃ b, v = .float .f64 b ∧ b < 2 ^ 64 := by
  cases n with
  | zero => simp [DataW.trod] at h
  | succ n =>
    cases v with
    | float k b =>
      simp only [DataW.trod, ht] at h
      by_cases hk : k = .f64
      · subst hk
        by_cases hw : (Lit.float .f64 b).wf = true
        · exact ⟨b, rfl, wf_lt hw⟩
        · simp [hw] at h
      · simp [hk] at h
    | _ => simp [DataW.trod, ht] at h

theorem le_all {H : Type} {ts : List TypeId} {ds : List (DataW H)} (hsz : (DataW.weightsEach Tryz.prog ts ds).all (· ≤ reachBytes) = true) {j : Nat} {t : TypeId} {d : DataW H} (ht : ts[j]? = some t) (hd : ds[j]? = some d) : ∀ x ∈ d.weights Tryz.prog t, x ≤ 140737488351232 := fun x hx => by
  have h := List.all_eq_true.1 hsz x (DataW.weights_mem_each ht hd x hx)
  have e : reachBytes = 140737488351232 := rfl
  rw [← e]
  exact of_decide_eq_true h
end Go.Proofs.YtihakjcccbionaaGreatDoor

end
section
/-
  Words for the rows whose arguments are packets: opened to their addresses, numbers and lists of bytes.
-/
namespace Go.Proofs.YtihakjcccbionaaGreatDoor
open Go.ChangeShapes Go.WideShapes Go.ChangeAt Go.RowKit
set_option maxRecDepth 100000
set_option linter.unusedVariables false
set_option linter.constructorNameAsVariable false

theorem cells_intP : Tryz.prog.cellsOf 3 = 1 := by kernel_rfl
theorem cells_bytesP : Tryz.prog.cellsOf 28 = 1 := by kernel_rfl
theorem cells_rip : Tryz.prog.cellsOf 62 = 43 := by kernel_rfl
theorem fields_of_rip : ∃ f0 f1 f2 f3 f4 f5 f6 f7 f8 f9 f10 : Field, Tryz.prog.underlying 62 = some (.struct #[f0, f1, f2, f3, f4, f5, f6, f7, f8, f9, f10]) ∧ (f0.type = 4 ∧ f0.offset = 0) ∧ (f1.type = 24 ∧ f1.offset = 1) ∧ (f2.type = 24 ∧ f2.offset = 18) ∧ (f3.type = 3 ∧ f3.offset = 35) ∧ (f4.type = 3 ∧ f4.offset = 36) ∧ (f5.type = 3 ∧ f5.offset = 37) ∧ (f6.type = 3 ∧ f6.offset = 38) ∧ (f7.type = 4 ∧ f7.offset = 39) ∧ (f8.type = 3 ∧ f8.offset = 40) ∧ (f9.type = 28 ∧ f9.offset = 41) ∧ (f10.type = 28 ∧ f10.offset = 42) := ⟨_, _, _, _, _, _, _, _, _, _, _, Tryz.underlying62, ⟨rfl, rfl⟩, ⟨rfl, rfl⟩, ⟨rfl, rfl⟩, ⟨rfl, rfl⟩, ⟨rfl, rfl⟩, ⟨rfl, rfl⟩, ⟨rfl, rfl⟩, ⟨rfl, rfl⟩, ⟨rfl, rfl⟩, ⟨rfl, rfl⟩, ⟨rfl, rfl⟩⟩
theorem trod_adP {H : Type} {enc : TypeId × Value → H} {W : World} {base : Nat} {spare : Nat → Bool} {held : Bool} {fuel : Nat} {cs : List Value} {x : DataW H × List MemPlace} (hsz : cs.length = 17) (h : DataW.trod enc Tryz.prog W base spare held fuel 24 cs = some x) :
    ∃ k l, l.length = 16 ∧ cs = adL k l := by
  obtain ⟨f0, f1, hu, t0, o0, t1, o1⟩ := fields_of_ad
  obtain ⟨xs, n, rfl, _, hlen, hxl, hg⟩ := DataW.trod_struct hu h
  have hg0 := hg 0 f0 rfl
  have hg1 := hg 1 f1 rfl
  rw [t0, o0, cells_bool] at hg0
  rw [t1, o1, cells_arr] at hg1
  match xs, hxl with
  | [y0, y1], _ =>
    have hg0' : DataW.trod enc Tryz.prog W base spare held n 4 ((cs.drop 0).take 1) = some y0 := hg0
    have hg1' : DataW.trod enc Tryz.prog W base spare held n 22 ((cs.drop 1).take 16) = some y1 := hg1
    obtain ⟨k, hk, _⟩ := DataW.trod_bool Tryz.underlying4 hg0'
    obtain ⟨l, hl, hcs⟩ := trod_bytes16 hg1'
    refine ⟨k, l, hl, ?_⟩
    have e : cs = (cs.drop 0).take 1 ++ (cs.drop 1).take 16 := by
      rw [List.drop_zero, List.take_of_length_le (l := cs.drop 1) (by rw [List.length_drop, hsz]; decide), List.take_append_drop]
    rw [e, hk, hcs]
    rfl
/-- a list of bytes in a field. -/
theorem trod_listP {H : Type} {enc : TypeId × Value → H} {W : World} {fuel : Nat} {cs : List Value} {x : DataW H × List MemPlace} (h : DataW.trod enc Tryz.prog W 0 (fun _ => true) true fuel 28 cs = some x)
    (hsz : ∀ y ∈ x.1.weights Tryz.prog 28, y ≤ 140737488351232) :
    ∃ A c l, cs = [.slice A l.length c] ∧ l.length ≤ c ∧ c ≤ 140737488351232 ∧ Byt W W.heap.size A l ∧ (A = none → c = 0) := by
  have hV : ∃ A ln cp, cs = [.slice A ln cp] := by
    rcases open_ints Tryz.underlying28 Tryz.underlying5 cells_u8 h with ⟨hc, _⟩ | ⟨a, ln, cp, zs, hc, _⟩
    · exact ⟨none, 0, 0, hc⟩
    · exact ⟨some a, ln, cp, hc⟩
  obtain ⟨A, ln, cp, rfl⟩ := hV
  obtain ⟨l, rfl, h1, h2, h3, h4⟩ := open_u8s (enc := enc) (W := W) (a0 := A) (len := ln) (cap := cp) (d := x.1) (p := x.2) 140737488351232 ⟨fuel, by simpa [Value.cells] using h⟩ (fun elems spare e => by
    refine hsz _ ?_
    rw [e, DataW.weights, Tryz.underlying28]
    exact List.mem_cons_self ..)
  exact ⟨A, cp, l, rfl, h1, h2, h3, h4⟩

/-- a packet that came in, and its two lists. -/
structure InP (W : World) (X : Array Value) (h : Ip) (O D : List UInt8) : Prop where
  x : IpV X h
  o : Byt W W.heap.size h.ao O
  ol : O.length = h.no
  oc : h.no ≤ h.co
  om : h.no ≤ 140737488351232
  on : h.ao = none → h.co = 0
  d : Byt W W.heap.size h.ad D
  dl : D.length = h.nd
  dc : h.nd ≤ h.cd
  dm : h.nd ≤ 140737488351232
  dn : h.ad = none → h.cd = 0

theorem open_rip {H : Type} {enc : TypeId × Value → H} {W : World} {r : Reach} {b0 : Nat} {v : Value} {d : DataW H} {p : List MemPlace}
    (hv : Value.okWide Tryz.prog W r b0 62 v) (h : DataW.Trod enc Tryz.prog W 0 (fun _ => true) true 62 v d p) (hw : ∀ y ∈ d.weights Tryz.prog 62, y ≤ 140737488351232) :
    ∃ X q O D, v = .agg X ∧ InP W X q O D := by
  obtain ⟨f0, f1, f2, f3, f4, f5, f6, f7, f8, f9, f10, hu, ⟨t0, o0⟩, ⟨t1, o1⟩, ⟨t2, o2⟩, ⟨t3, o3⟩, ⟨t4, o4⟩, ⟨t5, o5⟩, ⟨t6, o6⟩, ⟨t7, o7⟩, ⟨t8, o8⟩, ⟨t9, o9⟩, ⟨t10, o10⟩⟩ := fields_of_rip
  obtain ⟨cs, rfl, hsz⟩ := okWide_struct hu hv
  obtain ⟨fuel, hf⟩ := h
  obtain ⟨xs, n, rfl, hd, hlen, hxl, hg⟩ := DataW.trod_struct hu hf
  have hg0 := hg 0 f0 rfl
  rw [t0, o0, cells_bool] at hg0
  have hg1 := hg 1 f1 rfl
  rw [t1, o1, cells_ad] at hg1
  have hg2 := hg 2 f2 rfl
  rw [t2, o2, cells_ad] at hg2
  have hg3 := hg 3 f3 rfl
  rw [t3, o3, cells_intP] at hg3
  have hg4 := hg 4 f4 rfl
  rw [t4, o4, cells_intP] at hg4
  have hg5 := hg 5 f5 rfl
  rw [t5, o5, cells_intP] at hg5
  have hg6 := hg 6 f6 rfl
  rw [t6, o6, cells_intP] at hg6
  have hg7 := hg 7 f7 rfl
  rw [t7, o7, cells_bool] at hg7
  have hg8 := hg 8 f8 rfl
  rw [t8, o8, cells_intP] at hg8
  have hg9 := hg 9 f9 rfl
  rw [t9, o9, cells_bytesP] at hg9
  have hg10 := hg 10 f10 rfl
  rw [t10, o10, cells_bytesP] at hg10
  have hs : cs.toList.length = 43 := by rw [Array.length_toList, hsz, cells_rip]
  match xs, hxl with
  | [y0, y1, y2, y3, y4, y5, y6, y7, y8, y9, y10], _ =>
    have k0 : DataW.trod enc Tryz.prog W 0 (fun _ => true) true n 4 ((cs.toList.drop 0).take 1) = some y0 := hg0
    have k1 : DataW.trod enc Tryz.prog W 0 (fun _ => true) true n 24 ((cs.toList.drop 1).take 17) = some y1 := hg1
    have k2 : DataW.trod enc Tryz.prog W 0 (fun _ => true) true n 24 ((cs.toList.drop 18).take 17) = some y2 := hg2
    have k3 : DataW.trod enc Tryz.prog W 0 (fun _ => true) true n 3 ((cs.toList.drop 35).take 1) = some y3 := hg3
    have k4 : DataW.trod enc Tryz.prog W 0 (fun _ => true) true n 3 ((cs.toList.drop 36).take 1) = some y4 := hg4
    have k5 : DataW.trod enc Tryz.prog W 0 (fun _ => true) true n 3 ((cs.toList.drop 37).take 1) = some y5 := hg5
    have k6 : DataW.trod enc Tryz.prog W 0 (fun _ => true) true n 3 ((cs.toList.drop 38).take 1) = some y6 := hg6
    have k7 : DataW.trod enc Tryz.prog W 0 (fun _ => true) true n 4 ((cs.toList.drop 39).take 1) = some y7 := hg7
    have k8 : DataW.trod enc Tryz.prog W 0 (fun _ => true) true n 3 ((cs.toList.drop 40).take 1) = some y8 := hg8
    have k9 : DataW.trod enc Tryz.prog W 0 (fun _ => true) true n 28 ((cs.toList.drop 41).take 1) = some y9 := hg9
    have k10 : DataW.trod enc Tryz.prog W 0 (fun _ => true) true n 28 ((cs.toList.drop 42).take 1) = some y10 := hg10
    have hd' : d = .agg [y0.1, y1.1, y2.1, y3.1, y4.1, y5.1, y6.1, y7.1, y8.1, y9.1, y10.1] := by
      have := congrArg Prod.fst hd
      exact this
    have w9 : ∀ y ∈ y9.1.weights Tryz.prog 28, y ≤ 140737488351232 := fun y hy => hw y (by
      rw [hd', DataW.weights, hu]
      exact DataW.weights_mem_each (ts := #[f0, f1, f2, f3, f4, f5, f6, f7, f8, f9, f10].toList.map (·.type)) (ds := [y0.1, y1.1, y2.1, y3.1, y4.1, y5.1, y6.1, y7.1, y8.1, y9.1, y10.1]) (j := 9) (t := f9.type) (by rfl) (by rfl) y (by rw [t9]; exact hy))
    have w10 : ∀ y ∈ y10.1.weights Tryz.prog 28, y ≤ 140737488351232 := fun y hy => hw y (by
      rw [hd', DataW.weights, hu]
      exact DataW.weights_mem_each (ts := #[f0, f1, f2, f3, f4, f5, f6, f7, f8, f9, f10].toList.map (·.type)) (ds := [y0.1, y1.1, y2.1, y3.1, y4.1, y5.1, y6.1, y7.1, y8.1, y9.1, y10.1]) (j := 10) (t := f10.type) (by rfl) (by rfl) y (by rw [t10]; exact hy))
    obtain ⟨bv, e0, _⟩ := DataW.trod_bool Tryz.underlying4 k0
    obtain ⟨s, sl, hsl, e1⟩ := trod_adP (by rw [List.length_take, List.length_drop, hs]; decide) k1
    obtain ⟨s', sl', hsl', e2⟩ := trod_adP (by rw [List.length_take, List.length_drop, hs]; decide) k2
    obtain ⟨z3, e3, _, _⟩ := DataW.trod_int Tryz.underlying3 k3
    obtain ⟨z4, e4, _, _⟩ := DataW.trod_int Tryz.underlying3 k4
    obtain ⟨z5, e5, _, _⟩ := DataW.trod_int Tryz.underlying3 k5
    obtain ⟨z6, e6, _, _⟩ := DataW.trod_int Tryz.underlying3 k6
    obtain ⟨bd, e7, _⟩ := DataW.trod_bool Tryz.underlying4 k7
    obtain ⟨z8, e8, _, _⟩ := DataW.trod_int Tryz.underlying3 k8
    obtain ⟨A9, c9, l9, e9, m9, n9, o9, p9⟩ := trod_listP k9 w9
    obtain ⟨A10, c10, l10, e10, m10, n10, o10, p10⟩ := trod_listP k10 w10
    have hc : cs.toList = ipL ⟨bv, s, sl, s', sl', z3, z4, z5, z6, bd, z8, A9, l9.length, c9, A10, l10.length, c10⟩ := by
      have s0 : cs.toList = (cs.toList.drop 0).take 1 ++ cs.toList.drop 1 := by rw [List.drop_zero, List.take_append_drop]
      have s1 : cs.toList.drop 1 = (cs.toList.drop 1).take 17 ++ cs.toList.drop 18 := by
        have := (List.take_append_drop 17 (cs.toList.drop 1)).symm
        rwa [List.drop_drop] at this
      have s2 : cs.toList.drop 18 = (cs.toList.drop 18).take 17 ++ cs.toList.drop 35 := by
        have := (List.take_append_drop 17 (cs.toList.drop 18)).symm
        rwa [List.drop_drop] at this
      have s3 : cs.toList.drop 35 = (cs.toList.drop 35).take 1 ++ cs.toList.drop 36 := by
        have := (List.take_append_drop 1 (cs.toList.drop 35)).symm
        rwa [List.drop_drop] at this
      have s4 : cs.toList.drop 36 = (cs.toList.drop 36).take 1 ++ cs.toList.drop 37 := by
        have := (List.take_append_drop 1 (cs.toList.drop 36)).symm
        rwa [List.drop_drop] at this
      have s5 : cs.toList.drop 37 = (cs.toList.drop 37).take 1 ++ cs.toList.drop 38 := by
        have := (List.take_append_drop 1 (cs.toList.drop 37)).symm
        rwa [List.drop_drop] at this
      have s6 : cs.toList.drop 38 = (cs.toList.drop 38).take 1 ++ cs.toList.drop 39 := by
        have := (List.take_append_drop 1 (cs.toList.drop 38)).symm
        rwa [List.drop_drop] at this
      have s7 : cs.toList.drop 39 = (cs.toList.drop 39).take 1 ++ cs.toList.drop 40 := by
        have := (List.take_append_drop 1 (cs.toList.drop 39)).symm
        rwa [List.drop_drop] at this
      have s8 : cs.toList.drop 40 = (cs.toList.drop 40).take 1 ++ cs.toList.drop 41 := by
        have := (List.take_append_drop 1 (cs.toList.drop 40)).symm
        rwa [List.drop_drop] at this
      have s9 : cs.toList.drop 41 = (cs.toList.drop 41).take 1 ++ cs.toList.drop 42 := by
        have := (List.take_append_drop 1 (cs.toList.drop 41)).symm
        rwa [List.drop_drop] at this
      have s10 : cs.toList.drop 42 = (cs.toList.drop 42).take 1 := by rw [List.take_of_length_le (by rw [List.length_drop, hs]; decide)]
      rw [s0, s1, s2, s3, s4, s5, s6, s7, s8, s9, s10, e0, e1, e2, e3, e4, e5, e6, e7, e8, e9, e10]
      rfl
    have hX : cs = (ipL ⟨bv, s, sl, s', sl', z3, z4, z5, z6, bd, z8, A9, l9.length, c9, A10, l10.length, c10⟩).toArray := by rw [← hc]
    exact ⟨cs, _, l9, l10, rfl, ⟨hX, hsl, hsl'⟩, o9, rfl, m9, by show l9.length ≤ _; omega, p9, o10, rfl, m10, by show l10.length ≤ _; omega, p10⟩
end Go.Proofs.YtihakjcccbionaaGreatDoor

end
section
/-
  Words for the rows whose arguments are segments: opened to their numbers and lists of bytes.
-/
namespace Go.Proofs.YtihakjcccbionaaGreatDoor
open Go.ChangeShapes Go.WideShapes Go.ChangeAt Go.RowKit
set_option maxRecDepth 100000
set_option linter.unusedVariables false
set_option linter.constructorNameAsVariable false

theorem cells_u32S : Tryz.prog.cellsOf 53 = 1 := by kernel_rfl
theorem cells_rseg : Tryz.prog.cellsOf 64 = 11 := by kernel_rfl
theorem fields_of_rseg : ∃ f0 f1 f2 f3 f4 f5 f6 f7 f8 f9 f10 : Field, Tryz.prog.underlying 64 = some (.struct #[f0, f1, f2, f3, f4, f5, f6, f7, f8, f9, f10]) ∧ (f0.type = 3 ∧ f0.offset = 0) ∧ (f1.type = 3 ∧ f1.offset = 1) ∧ (f2.type = 3 ∧ f2.offset = 2) ∧ (f3.type = 53 ∧ f3.offset = 3) ∧ (f4.type = 53 ∧ f4.offset = 4) ∧ (f5.type = 3 ∧ f5.offset = 5) ∧ (f6.type = 3 ∧ f6.offset = 6) ∧ (f7.type = 3 ∧ f7.offset = 7) ∧ (f8.type = 4 ∧ f8.offset = 8) ∧ (f9.type = 28 ∧ f9.offset = 9) ∧ (f10.type = 28 ∧ f10.offset = 10) := ⟨_, _, _, _, _, _, _, _, _, _, _, Tryz.underlying64, ⟨rfl, rfl⟩, ⟨rfl, rfl⟩, ⟨rfl, rfl⟩, ⟨rfl, rfl⟩, ⟨rfl, rfl⟩, ⟨rfl, rfl⟩, ⟨rfl, rfl⟩, ⟨rfl, rfl⟩, ⟨rfl, rfl⟩, ⟨rfl, rfl⟩, ⟨rfl, rfl⟩⟩
/-- a segment that came in, and its two lists. -/
structure InS (W : World) (X : Array Value) (s : Sg) (O D : List UInt8) : Prop where
  x : SgV X s
  o : Byt W W.heap.size s.ao O
  ol : O.length = s.no
  oc : s.no ≤ s.co
  om : s.no ≤ 140737488351232
  on : s.ao = none → s.co = 0
  d : Byt W W.heap.size s.ad D
  dl : D.length = s.nd
  dc : s.nd ≤ s.cd
  dm : s.nd ≤ 140737488351232
  dn : s.ad = none → s.cd = 0

theorem open_rseg {H : Type} {enc : TypeId × Value → H} {W : World} {r : Reach} {b0 : Nat} {v : Value} {d : DataW H} {p : List MemPlace}
    (hv : Value.okWide Tryz.prog W r b0 64 v) (h : DataW.Trod enc Tryz.prog W 0 (fun _ => true) true 64 v d p) (hw : ∀ y ∈ d.weights Tryz.prog 64, y ≤ 140737488351232) :
    ∃ X q O D, v = .agg X ∧ InS W X q O D := by
  obtain ⟨f0, f1, f2, f3, f4, f5, f6, f7, f8, f9, f10, hu, ⟨t0, o0⟩, ⟨t1, o1⟩, ⟨t2, o2⟩, ⟨t3, o3⟩, ⟨t4, o4⟩, ⟨t5, o5⟩, ⟨t6, o6⟩, ⟨t7, o7⟩, ⟨t8, o8⟩, ⟨t9, o9⟩, ⟨t10, o10⟩⟩ := fields_of_rseg
  obtain ⟨cs, rfl, hsz⟩ := okWide_struct hu hv
  obtain ⟨fuel, hf⟩ := h
  obtain ⟨xs, n, rfl, hd, hlen, hxl, hg⟩ := DataW.trod_struct hu hf
  have hg0 := hg 0 f0 rfl
  rw [t0, o0, cells_intP] at hg0
  have hg1 := hg 1 f1 rfl
  rw [t1, o1, cells_intP] at hg1
  have hg2 := hg 2 f2 rfl
  rw [t2, o2, cells_intP] at hg2
  have hg3 := hg 3 f3 rfl
  rw [t3, o3, cells_u32S] at hg3
  have hg4 := hg 4 f4 rfl
  rw [t4, o4, cells_u32S] at hg4
  have hg5 := hg 5 f5 rfl
  rw [t5, o5, cells_intP] at hg5
  have hg6 := hg 6 f6 rfl
  rw [t6, o6, cells_intP] at hg6
  have hg7 := hg 7 f7 rfl
  rw [t7, o7, cells_intP] at hg7
  have hg8 := hg 8 f8 rfl
  rw [t8, o8, cells_bool] at hg8
  have hg9 := hg 9 f9 rfl
  rw [t9, o9, cells_bytesP] at hg9
  have hg10 := hg 10 f10 rfl
  rw [t10, o10, cells_bytesP] at hg10
  have hs : cs.toList.length = 11 := by rw [Array.length_toList, hsz, cells_rseg]
  match xs, hxl with
  | [y0, y1, y2, y3, y4, y5, y6, y7, y8, y9, y10], _ =>
    have k0 : DataW.trod enc Tryz.prog W 0 (fun _ => true) true n 3 ((cs.toList.drop 0).take 1) = some y0 := hg0
    have k1 : DataW.trod enc Tryz.prog W 0 (fun _ => true) true n 3 ((cs.toList.drop 1).take 1) = some y1 := hg1
    have k2 : DataW.trod enc Tryz.prog W 0 (fun _ => true) true n 3 ((cs.toList.drop 2).take 1) = some y2 := hg2
    have k3 : DataW.trod enc Tryz.prog W 0 (fun _ => true) true n 53 ((cs.toList.drop 3).take 1) = some y3 := hg3
    have k4 : DataW.trod enc Tryz.prog W 0 (fun _ => true) true n 53 ((cs.toList.drop 4).take 1) = some y4 := hg4
    have k5 : DataW.trod enc Tryz.prog W 0 (fun _ => true) true n 3 ((cs.toList.drop 5).take 1) = some y5 := hg5
    have k6 : DataW.trod enc Tryz.prog W 0 (fun _ => true) true n 3 ((cs.toList.drop 6).take 1) = some y6 := hg6
    have k7 : DataW.trod enc Tryz.prog W 0 (fun _ => true) true n 3 ((cs.toList.drop 7).take 1) = some y7 := hg7
    have k8 : DataW.trod enc Tryz.prog W 0 (fun _ => true) true n 4 ((cs.toList.drop 8).take 1) = some y8 := hg8
    have k9 : DataW.trod enc Tryz.prog W 0 (fun _ => true) true n 28 ((cs.toList.drop 9).take 1) = some y9 := hg9
    have k10 : DataW.trod enc Tryz.prog W 0 (fun _ => true) true n 28 ((cs.toList.drop 10).take 1) = some y10 := hg10
    have hd' : d = .agg [y0.1, y1.1, y2.1, y3.1, y4.1, y5.1, y6.1, y7.1, y8.1, y9.1, y10.1] := by
      have := congrArg Prod.fst hd
      exact this
    have w9 : ∀ y ∈ y9.1.weights Tryz.prog 28, y ≤ 140737488351232 := fun y hy => hw y (by
      rw [hd', DataW.weights, hu]
      exact DataW.weights_mem_each (ts := #[f0, f1, f2, f3, f4, f5, f6, f7, f8, f9, f10].toList.map (·.type)) (ds := [y0.1, y1.1, y2.1, y3.1, y4.1, y5.1, y6.1, y7.1, y8.1, y9.1, y10.1]) (j := 9) (t := f9.type) (by rfl) (by rfl) y (by rw [t9]; exact hy))
    have w10 : ∀ y ∈ y10.1.weights Tryz.prog 28, y ≤ 140737488351232 := fun y hy => hw y (by
      rw [hd', DataW.weights, hu]
      exact DataW.weights_mem_each (ts := #[f0, f1, f2, f3, f4, f5, f6, f7, f8, f9, f10].toList.map (·.type)) (ds := [y0.1, y1.1, y2.1, y3.1, y4.1, y5.1, y6.1, y7.1, y8.1, y9.1, y10.1]) (j := 10) (t := f10.type) (by rfl) (by rfl) y (by rw [t10]; exact hy))
    obtain ⟨z0, e0, _, _⟩ := DataW.trod_int Tryz.underlying3 k0
    obtain ⟨z1, e1, _, _⟩ := DataW.trod_int Tryz.underlying3 k1
    obtain ⟨z2, e2, _, _⟩ := DataW.trod_int Tryz.underlying3 k2
    obtain ⟨z3, e3, _, g3⟩ := DataW.trod_int Tryz.underlying53 k3
    have b3 := bounds_u32 g3
    obtain ⟨n3, rfl⟩ : ∃ n : Nat, z3 = (n : Int) := ⟨z3.toNat, by omega⟩
    obtain ⟨z4, e4, _, g4⟩ := DataW.trod_int Tryz.underlying53 k4
    have b4 := bounds_u32 g4
    obtain ⟨n4, rfl⟩ : ∃ n : Nat, z4 = (n : Int) := ⟨z4.toNat, by omega⟩
    obtain ⟨z5, e5, _, _⟩ := DataW.trod_int Tryz.underlying3 k5
    obtain ⟨z6, e6, _, _⟩ := DataW.trod_int Tryz.underlying3 k6
    obtain ⟨z7, e7, _, _⟩ := DataW.trod_int Tryz.underlying3 k7
    obtain ⟨z8, e8, _⟩ := DataW.trod_bool Tryz.underlying4 k8
    obtain ⟨A9, c9, l9, e9, m9, u9, q9, p9⟩ := trod_listP k9 w9
    obtain ⟨A10, c10, l10, e10, m10, u10, q10, p10⟩ := trod_listP k10 w10
    have hc : cs.toList = sgL ⟨z0, z1, z2, n3, n4, z5, z6, z7, z8, A9, l9.length, c9, A10, l10.length, c10⟩ := by
      have s0 : cs.toList = (cs.toList.drop 0).take 1 ++ cs.toList.drop 1 := by rw [List.drop_zero, List.take_append_drop]
      have s1 : cs.toList.drop 1 = (cs.toList.drop 1).take 1 ++ cs.toList.drop 2 := by
        have := (List.take_append_drop 1 (cs.toList.drop 1)).symm
        rwa [List.drop_drop] at this
      have s2 : cs.toList.drop 2 = (cs.toList.drop 2).take 1 ++ cs.toList.drop 3 := by
        have := (List.take_append_drop 1 (cs.toList.drop 2)).symm
        rwa [List.drop_drop] at this
      have s3 : cs.toList.drop 3 = (cs.toList.drop 3).take 1 ++ cs.toList.drop 4 := by
        have := (List.take_append_drop 1 (cs.toList.drop 3)).symm
        rwa [List.drop_drop] at this
      have s4 : cs.toList.drop 4 = (cs.toList.drop 4).take 1 ++ cs.toList.drop 5 := by
        have := (List.take_append_drop 1 (cs.toList.drop 4)).symm
        rwa [List.drop_drop] at this
      have s5 : cs.toList.drop 5 = (cs.toList.drop 5).take 1 ++ cs.toList.drop 6 := by
        have := (List.take_append_drop 1 (cs.toList.drop 5)).symm
        rwa [List.drop_drop] at this
      have s6 : cs.toList.drop 6 = (cs.toList.drop 6).take 1 ++ cs.toList.drop 7 := by
        have := (List.take_append_drop 1 (cs.toList.drop 6)).symm
        rwa [List.drop_drop] at this
      have s7 : cs.toList.drop 7 = (cs.toList.drop 7).take 1 ++ cs.toList.drop 8 := by
        have := (List.take_append_drop 1 (cs.toList.drop 7)).symm
        rwa [List.drop_drop] at this
      have s8 : cs.toList.drop 8 = (cs.toList.drop 8).take 1 ++ cs.toList.drop 9 := by
        have := (List.take_append_drop 1 (cs.toList.drop 8)).symm
        rwa [List.drop_drop] at this
      have s9 : cs.toList.drop 9 = (cs.toList.drop 9).take 1 ++ cs.toList.drop 10 := by
        have := (List.take_append_drop 1 (cs.toList.drop 9)).symm
        rwa [List.drop_drop] at this
      have s10 : cs.toList.drop 10 = (cs.toList.drop 10).take 1 := by rw [List.take_of_length_le (by rw [List.length_drop, hs]; decide)]
      rw [s0, s1, s2, s3, s4, s5, s6, s7, s8, s9, s10, e0, e1, e2, e3, e4, e5, e6, e7, e8, e9, e10]
      rfl
    have hX : cs = (sgL ⟨z0, z1, z2, n3, n4, z5, z6, z7, z8, A9, l9.length, c9, A10, l10.length, c10⟩).toArray := by rw [← hc]
    exact ⟨cs, _, l9, l10, rfl, ⟨hX, by show n3 < _; omega, by show n4 < _; omega⟩, q9, rfl, m9, by show l9.length ≤ _; omega, p9, q10, rfl, m10, by show l10.length ≤ _; omega, p10⟩
end Go.Proofs.YtihakjcccbionaaGreatDoor

end
