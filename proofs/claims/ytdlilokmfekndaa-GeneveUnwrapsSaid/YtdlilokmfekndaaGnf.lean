/-
  A tunnel's bytes.
-/
import Derived.Test.YtdlilokmfekndaaGne
namespace Go.Proofs.Ytdlilokmfekndaa
open Go.RowKit
set_option linter.unusedVariables false
set_option linter.unusedSimpArgs false

def optB (o : OpG) : List UInt8 := numBytes o.c.toNat 2 2 ++ (numBytes o.t.toNat 1 1 ++ (numBytes (o.d.length / 4) 1 1 ++ o.d))
def tunB (s f p v : Nat) (l : List OpG) (D : List UInt8) : List UInt8 := numBytes s 1 1 ++ (numBytes f 1 1 ++ (numBytes p 2 2 ++ (numBytes v 3 3 ++ (numBytes 0 1 1 ++ (l.flatMap optB ++ D)))))
def zopG (o : OpG) : List ((Nat × List UInt8) × (Int × Int)) := [((o.c.toNat, []), (0, 2)), ((o.t.toNat, []), (0, 1)), ((o.d.length / 4, []), (0, 1)), ((0, o.d), (1, (o.d.length : Int)))]
theorem len_zo (l : List OpG) : ((l.flatMap itG).map fun it => (it.N, it.b)).length = (l.flatMap opG4).length := by
  induction l with
  | nil => rfl
  | cons a l ih => simp [itG, opG4] at ih ⊢; try omega
theorem zip_zo (l : List OpG) : ((l.flatMap itG).map fun it => (it.N, it.b)).zip (l.flatMap opG4) = l.flatMap zopG := by
  induction l with
  | nil => rfl
  | cons a l ih =>
    have e1 : (a :: l).flatMap itG = itG a ++ l.flatMap itG := rfl
    have e2 : (a :: l).flatMap opG4 = opG4 a ++ l.flatMap opG4 := rfl
    have e3 : (a :: l).flatMap zopG = zopG a ++ l.flatMap zopG := rfl
    rw [e1, e2, e3, List.map_append, List.zip_append (by rfl), ih]
    rfl
theorem put_zo (l : List OpG) : (l.flatMap zopG).flatMap zputG = l.flatMap optB := by
  induction l with
  | nil => rfl
  | cons a l ih =>
    have e3 : (a :: l).flatMap zopG = zopG a ++ l.flatMap zopG := rfl
    have e4 : (a :: l).flatMap optB = optB a ++ l.flatMap optB := rfl
    rw [e3, e4, List.flatMap_append, ih]
    simp [zopG, zputG, putS, optB]
theorem zip_tun (s f p v : Nat) (l : List OpG) (I : Option Addr) (k : Nat) (D : List UInt8) :
    ((itsG s f p v l ++ [(⟨0, .slice I D.length k, D⟩ : VItem)]).map fun it => (it.N, it.b)).zip (opsG l ++ [(1, (D.length : Int))]) =
      [((s, []), (0, 1)), ((f, []), (0, 1)), ((p, []), (0, 2)), ((v, []), (0, 3)), ((0, []), (0, 1))] ++ (l.flatMap zopG ++ [((0, D), (1, (D.length : Int)))]) := by
  unfold itsG opsG
  rw [List.append_assoc, List.append_assoc, List.map_append, List.map_append, List.zip_append (by rfl), List.zip_append (len_zo l), zip_zo]
  rfl
theorem put_tun (s f p v : Nat) (l : List OpG) (I : Option Addr) (k : Nat) (D : List UInt8) :
    (((itsG s f p v l ++ [(⟨0, .slice I D.length k, D⟩ : VItem)]).map fun it => (it.N, it.b)).zip (opsG l ++ [(1, (D.length : Int))])).flatMap zputG = tunB s f p v l D := by
  rw [zip_tun, List.flatMap_append, List.flatMap_append, put_zo]
  simp [zputG, putS, tunB]
theorem fitsG_num {N k : Nat} (h : N < 256 ^ k) (h1 : 1 ≤ k) (h8 : k ≤ 8) : fitsS N 0 0 (k : Int) = true := by
  unfold fitsS
  rw [if_pos rfl]
  simp; exact ⟨⟨by omega, by omega⟩, h⟩
/-- a tunnel that can be: its bytes, or it is too large. -/
theorem putR_ok (o : Bool) (p v : Int) (l : List OpG) (I : Option Addr) (k : Nat) (D : List UInt8) (hr : rightG p v l = true) (hs : sizeG l ≤ 252) (hf : (flG o l).toNat ≤ 255) :
    putR o p v l I k D = if (tunB (sizeG l / 4) (flG o l).toNat p.toNat v.toNat l D).length ≤ 65535 then (tunB (sizeG l / 4) (flG o l).toNat p.toNat v.toNat l D, 0) else ([], 3) := by
  unfold putR
  rw [if_neg (by simp [hr]), if_neg (by omega)]
  have hL := sizeG_four l
  have hlen : ((itsG (sizeG l / 4) (flG o l).toNat p.toNat v.toNat l ++ [(⟨0, .slice I D.length k, D⟩ : VItem)]).map fun it => (it.N, it.b)).length = (opsG l ++ [(1, (D.length : Int))]).length := by
    rw [List.length_map, List.length_append, List.length_append, len_itsG, len_opsG]; rfl
  rw [layR_ok _ _ (by rw [List.length_append, len_opsG]; simp; omega) hlen ?_, put_tun]
  rw [zip_tun]
  unfold rightG at hr
  simp only [Bool.and_eq_true] at hr
  obtain ⟨hp, hv, hall⟩ := hr
  obtain ⟨pn, rfl, hp2⟩ := upG_nat hp
  obtain ⟨vn, rfl, hv2⟩ := upG_nat hv
  intro z hz
  rcases List.mem_append.1 hz with hz | hz
  · simp only [List.mem_cons, List.not_mem_nil, or_false] at hz
    rcases hz with rfl | rfl | rfl | rfl | rfl
    · exact fitsG_num (k := 1) (by dsimp only; omega) (by decide) (by decide)
    · exact fitsG_num (k := 1) (by dsimp only; omega) (by decide) (by decide)
    · exact fitsG_num (k := 2) (by simp; omega) (by decide) (by decide)
    · exact fitsG_num (k := 3) (by simp; omega) (by decide) (by decide)
    · exact fitsG_num (k := 1) (by decide) (by decide) (by decide)
  · rcases List.mem_append.1 hz with hz | hz
    · obtain ⟨x, hx, hz⟩ := List.mem_flatMap.1 hz
      have hok := List.all_eq_true.1 hall x hx
      unfold okG at hok
      simp only [Bool.and_eq_true] at hok
      obtain ⟨hk1, hk2, -, hk4⟩ := hok
      have hn : x.d.length ≤ 124 := by simpa using hk4
      obtain ⟨cn, hcn, hc2⟩ := upG_nat hk1
      obtain ⟨tn, htn, ht2⟩ := upG_nat hk2
      unfold zopG at hz
      simp only [List.mem_cons, List.not_mem_nil, or_false] at hz
      rcases hz with rfl | rfl | rfl | rfl
      · exact fitsG_num (k := 2) (by rw [hcn]; simp; omega) (by decide) (by decide)
      · exact fitsG_num (k := 1) (by rw [htn]; simp; omega) (by decide) (by decide)
      · exact fitsG_num (k := 1) (by simp; omega) (by decide) (by decide)
      · simp [fitsS]
    · rw [List.mem_singleton] at hz
      subst hz
      simp [fitsS]
end Go.Proofs.Ytdlilokmfekndaa
