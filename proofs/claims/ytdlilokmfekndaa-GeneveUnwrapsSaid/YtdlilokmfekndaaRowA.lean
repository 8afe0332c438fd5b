/-
  Words for the rows whose arguments are addresses: opened to their kind and their sixteen bytes.
-/
import Derived.Test.YtdlilokmfekndaaRow
import Derived.Test.YtdlilokmfekndaaMad
import Derived.OpenShut
namespace Go.Proofs.Ytdlilokmfekndaa
open Go.ChangeShapes Go.WideShapes Go.ChangeAt Go.RowKit
set_option maxRecDepth 100000
set_option linter.unusedVariables false
set_option linter.constructorNameAsVariable false

theorem cells_ad : Try.prog.cellsOf 26 = 17 := by kernel_rfl
theorem cells_arr : Try.prog.cellsOf 24 = 16 := by kernel_rfl
theorem cells_bool : Try.prog.cellsOf 4 = 1 := by kernel_rfl
theorem fields_of_ad : ∃ f0 f1 : Field, Try.prog.underlying 26 = some (.struct #[f0, f1]) ∧ f0.type = 4 ∧ f0.offset = 0 ∧ f1.type = 24 ∧ f1.offset = 1 := ⟨_, _, Try.underlying26, rfl, rfl, rfl, rfl⟩

theorem trod_bytes16 {H : Type} {enc : TypeId × Value → H} {W : World} {base : Nat} {spare : Nat → Bool} {held : Bool} {fuel : Nat} {cs : List Value} {x : DataW H × List MemPlace} (h : DataW.trod enc Try.prog W base spare held fuel 24 cs = some x) :
    ∃ l : List UInt8, l.length = 16 ∧ cs = l.map byteV := by
  obtain ⟨xs, m, _, _, hlen, hxl, hg⟩ := DataW.trod_array Try.underlying24 h
  rw [cells_arr] at hlen
  rw [cells_u8] at hg
  have each : ∀ i (hi : i < cs.length), ∃ u : UInt8, cs[i] = byteV u := fun i hi => by
    have h1 := hg i (by omega)
    have hx : xs[i]? = some (xs[i]'(by omega)) := List.getElem?_eq_getElem (by omega)
    rw [hx, Nat.mul_one, List.drop_eq_getElem_cons hi] at h1
    obtain ⟨z, hz, _, hwf⟩ := DataW.trod_int Try.underlying5 h1
    have hz' : cs[i] = .int .u8 z := by
      have : [cs[i]] = [Value.int .u8 z] := hz
      simpa using this
    have hb := bounds_u8 hwf
    refine ⟨UInt8.ofNat z.toNat, ?_⟩
    rw [hz', byteV, UInt8.toNat_ofNat_of_lt' (by show _ < 256; omega)]
    congr 1
    omega
  have all : ∀ (L : List Value), (∀ i (hi : i < L.length), ∃ u : UInt8, L[i] = byteV u) → ∃ l : List UInt8, l.length = L.length ∧ L = l.map byteV := by
    intro L
    induction L with
    | nil => exact fun _ => ⟨[], rfl, rfl⟩
    | cons a L ih =>
      intro h
      obtain ⟨u, hu⟩ := h 0 (by simp)
      obtain ⟨l, hl, hL⟩ := ih (fun i hi => by
        obtain ⟨u, hu⟩ := h (i + 1) (by simp; omega)
        exact ⟨u, by simpa using hu⟩)
      have hu' : a = byteV u := hu
      exact ⟨u :: l, by simp [hl], by rw [List.map_cons, ← hL, hu']⟩
  obtain ⟨l, hl, hL⟩ := all cs each
  exact ⟨l, by omega, hL⟩
theorem open_ad {H : Type} {enc : TypeId × Value → H} {W : World} {r : Reach} {b0 : Nat} {base : Nat} {spare : Nat → Bool} {held : Bool} {v : Value} {d : DataW H} {p : List MemPlace}
    (hv : Value.okWide Try.prog W r b0 26 v) (h : DataW.Trod enc Try.prog W base spare held 26 v d p) :
    ∃ X k l, v = .agg X ∧ AdV X k l := by
  obtain ⟨f0, f1, hu, t0, o0, t1, o1⟩ := fields_of_ad
  obtain ⟨cs, rfl, hsz⟩ := okWide_struct hu hv
  obtain ⟨fuel, hf⟩ := h
  obtain ⟨xs, n, rfl, _, hlen, hxl, hg⟩ := DataW.trod_struct hu hf
  have hg0 := hg 0 f0 rfl
  have hg1 := hg 1 f1 rfl
  rw [t0, o0, cells_bool] at hg0
  rw [t1, o1, cells_arr] at hg1
  match xs, hxl with
  | [y0, y1], _ =>
    have hg0' : DataW.trod enc Try.prog W base spare held n 4 (((Value.agg cs).cells.toList.drop 0).take 1) = some y0 := hg0
    have hg1' : DataW.trod enc Try.prog W base spare held n 24 (((Value.agg cs).cells.toList.drop 1).take 16) = some y1 := hg1
    obtain ⟨k, hk, _⟩ := DataW.trod_bool Try.underlying4 hg0'
    obtain ⟨l, hl, hcs⟩ := trod_bytes16 hg1'
    have hc : cs.toList = adL k l := by
      have e : cs.toList = (cs.toList.drop 0).take 1 ++ (cs.toList.drop 1).take 16 := by
        rw [List.drop_zero, List.take_of_length_le (l := cs.toList.drop 1) (by rw [List.length_drop, Array.length_toList, hsz, cells_ad]; decide), List.take_append_drop]
      rw [e]
      have hk' : (cs.toList.drop 0).take 1 = [.bool k] := hk
      have hl' : (cs.toList.drop 1).take 16 = l.map byteV := hcs
      rw [hk', hl']
      rfl
    have hX : cs = (adL k l).toArray := by rw [← hc]
    exact ⟨cs, k, l, rfl, by rw [hX]; exact AdV.mk' hl⟩
end Go.Proofs.Ytdlilokmfekndaa
