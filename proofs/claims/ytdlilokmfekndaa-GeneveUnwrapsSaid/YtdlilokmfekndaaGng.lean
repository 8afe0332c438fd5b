/-
  A tunnel in memory, whole: its cells, its options, their bytes.
-/
import Derived.Test.YtdlilokmfekndaaGnf
namespace Go.Proofs.Ytdlilokmfekndaa
open Go.RowKit
set_option maxRecDepth 100000
set_option linter.unusedVariables false
set_option linter.unusedSimpArgs false

/-- an option by what it says: its class, its type, its bytes. -/
abbrev OpD := Int × Int × List UInt8
def OpG.say (o : OpG) : OpD := (o.c, o.t, o.d)
structure TuD where
  o : Bool
  p : Int
  v : Int
  l : List OpD
  D : List UInt8
def ogC (o : OpG) : List Value := [.int .i64 o.c, .int .i64 o.t, .slice o.a o.d.length o.k]
def ogsC (l : List OpG) : List Value := l.flatMap ogC
theorem ogsC_len (l : List OpG) : (ogsC l).length = l.length * 3 := by
  induction l with
  | nil => rfl
  | cons a l ih => simp only [ogsC, List.flatMap_cons, List.length_append, List.length_cons] at ih ⊢; rw [ih]; simp [ogC]; omega
theorem ogsC_snoc (l : List OpG) (o : OpG) : ogsC (l ++ [o]) = ogsC l ++ ogC o := by simp [ogsC]
theorem ogsC_get : ∀ (l : List OpG) (i : Nat) (h : i < l.length), (ogsC l)[i * 3]? = some (.int .i64 l[i].c) ∧ (ogsC l)[i * 3 + 1]? = some (.int .i64 l[i].t) ∧ (ogsC l)[i * 3 + 2]? = some (.slice l[i].a l[i].d.length l[i].k)
  | [], i, h => by simp at h
  | o :: l, 0, h => ⟨rfl, rfl, rfl⟩
  | o :: l, i + 1, h => by
    have hs : ogsC (o :: l) = ogC o ++ ogsC l := rfl
    have hl : (ogC o).length = 3 := rfl
    rw [hs, List.getElem?_append_right (by omega), List.getElem?_append_right (by omega), List.getElem?_append_right (by omega), hl, show (i + 1) * 3 - 3 = i * 3 by omega, show (i + 1) * 3 + 1 - 3 = i * 3 + 1 by omega, show (i + 1) * 3 + 2 - 3 = i * 3 + 2 by omega]
    exact ogsC_get l i (by simpa using h)
theorem row_ogs {w : World} {base : Nat} {e : TypeId} {v : Value} {l : List OpG} {n : Nat} (h : w.ownsRow base e 3 v n (ogsC l)) (hn : n = l.length) : ∃ A c, v = .slice A l.length c ∧ l.length ≤ c ∧ RdG w w.heap.size A l := by
  subst hn
  rcases h.2 with ⟨rfl, h0⟩ | ⟨gg, cap, cur, rfl, hb, hg, hn, hm, hsz, ht⟩
  · exact ⟨none, 0, by rw [h0], by omega, fun hp => by omega⟩
  · refine ⟨some ⟨gg, 0, none⟩, cap, rfl, hn, fun _ => ⟨gg, 0, rfl, (Array.getElem?_eq_some_iff.1 hg).1, fun i hi => ?_⟩⟩
    obtain ⟨h1, h2, h3⟩ := ogsC_get l i hi
    have hc : ∀ i, i < l.length * 3 → w.cell? ⟨gg, i, none⟩ = (ogsC l)[i]? := fun i hi => World.ownsRow.cellAt (g := gg) (cap := cap) h i hi
    rw [Nat.zero_add]
    exact ⟨(hc _ (by omega)).trans h1, (hc _ (by omega)).trans h2, (hc _ (by omega)).trans h3⟩
/-- the bytes of options are there. -/
def OgB (w : World) (B : Nat) (l : List OpG) : Prop := ∀ x ∈ l, Byt w B x.a x.d ∧ (x.a = none → x.k = 0) ∧ x.d.length ≤ x.k
theorem OgB.below {w w' : World} {B : Nat} {l : List OpG} (h : OgB w B l) (hb : Below B w w') : OgB w' B l := fun x hx => ⟨(h x hx).1.below hb, (h x hx).2⟩
theorem OgB.more {w : World} {B B' : Nat} {l : List OpG} (h : OgB w B l) (hb : B ≤ B') : OgB w B' l := fun x hx => ⟨(h x hx).1.more hb, (h x hx).2⟩
theorem OgB.nil (w : World) (B : Nat) : OgB w B [] := fun x hx => by simp at hx
theorem OgB.snoc {w : World} {B : Nat} {l : List OpG} {o : OpG} (h : OgB w B l) (ho : Byt w B o.a o.d ∧ (o.a = none → o.k = 0) ∧ o.d.length ≤ o.k) : OgB w B (l ++ [o]) := fun x hx => by
  rcases List.mem_append.1 hx with h1 | h1
  · exact h x h1
  · rw [List.mem_singleton] at h1; subst h1; exact ho
/-- a tunnel's cells, and what lies behind them. -/
structure TuP (w : World) (T : TuD) (A : Option Addr) (c : Nat) (l : List OpG) (I : Option Addr) (k : Nat) : Prop where
  say : l.map OpG.say = T.l
  rd : RdG w w.heap.size A l
  ob : OgB w w.heap.size l
  le : l.length ≤ c
  i : Byt w w.heap.size I T.D
  inn : I = none → k = 0
  ik : T.D.length ≤ k
def TuG (w : World) (X : Array Value) (T : TuD) : Prop :=
  ∃ A c l I k, X = tunA T.o T.p T.v A l.length c I T.D.length k ∧ TuP w T A c l I k
theorem TuP.below {w w' : World} {T : TuD} {A I : Option Addr} {c k : Nat} {l : List OpG} (h : TuP w T A c l I k) (hb : Below w.heap.size w w') : TuP w' T A c l I k :=
  ⟨h.say, (h.rd.below hb).more hb.size, (h.ob.below hb).more hb.size, h.le, (h.i.below hb).more hb.size, h.inn, h.ik⟩
theorem TuG.below {w w' : World} {X : Array Value} {T : TuD} (h : TuG w X T) (hb : Below w.heap.size w w') : TuG w' X T := by
  obtain ⟨A, c, l, I, k, e, hp⟩ := h
  exact ⟨A, c, l, I, k, e, hp.below hb⟩
theorem TuP.len {w : World} {T : TuD} {A I : Option Addr} {c k : Nat} {l : List OpG} (h : TuP w T A c l I k) : l.length = T.l.length := by rw [← h.say, List.length_map]
theorem say_get {l : List OpG} {L : List OpD} (h : l.map OpG.say = L) {i : Nat} (hi : i < l.length) (hi2 : i < L.length) : L[i] = (l[i].c, l[i].t, l[i].d) := by
  subst h; simp [OpG.say]
def sizeD (l : List OpD) : Nat := (l.map fun o => 4 + o.2.2.length).sum
theorem sizeG_say (l : List OpG) : sizeG l = sizeD (l.map OpG.say) := by
  induction l with
  | nil => rfl
  | cons a l ih => simp only [sizeG, ih, List.map_cons, sizeD, List.sum_cons]; rfl
def critD (l : List OpD) : Bool := l.any fun o => decide (128 ≤ o.2.1)
theorem critG_say (l : List OpG) : critG l = critD (l.map OpG.say) := by
  unfold critG critD
  rw [List.any_map]
  rfl
def okdG (o : OpD) : Bool := upG 65535 o.1 && (upG 255 o.2.1 && (o.2.2.length % 4 == 0 && decide (o.2.2.length ≤ 124)))
theorem okG_say (l : List OpG) : l.all okG = (l.map OpG.say).all okdG := by
  rw [List.all_map]
  rfl
def flD (o : Bool) (l : List OpD) : Int := (if o then 128 else 0) + (if critD l then 64 else 0)
theorem flG_say (o : Bool) (l : List OpG) : flG o l = flD o (l.map OpG.say) := by unfold flG flD; rw [critG_say]
def rightD (T : TuD) : Bool := upG 65535 T.p && (upG 16777215 T.v && T.l.all okdG)
def optD (o : OpD) : List UInt8 := numBytes o.1.toNat 2 2 ++ (numBytes o.2.1.toNat 1 1 ++ (numBytes (o.2.2.length / 4) 1 1 ++ o.2.2))
theorem optB_say (l : List OpG) : l.flatMap optB = (l.map OpG.say).flatMap optD := by
  induction l with
  | nil => rfl
  | cons a l ih => simp only [List.flatMap_cons, List.map_cons, ih]; rfl
/-- a tunnel's bytes. -/
def bytD (T : TuD) : List UInt8 := numBytes (sizeD T.l / 4) 1 1 ++ (numBytes (flD T.o T.l).toNat 1 1 ++ (numBytes T.p.toNat 2 2 ++ (numBytes T.v.toNat 3 3 ++ (numBytes 0 1 1 ++ (T.l.flatMap optD ++ T.D)))))
/-- what a tunnel is laid as, or why it is not. -/
def putD (T : TuD) : List UInt8 × Nat :=
  if rightD T = false then ([], 1) else if 252 < sizeD T.l then ([], 3) else if (bytD T).length ≤ 65535 then (bytD T, 0) else ([], 3)
theorem putD_of (T : TuD) (A I : Option Addr) (c k : Nat) (l : List OpG) (h : l.map OpG.say = T.l) : putR T.o T.p T.v l I k T.D = putD T := by
  have hr : rightG T.p T.v l = rightD T := by unfold rightG rightD; rw [okG_say, h]
  have hs : sizeG l = sizeD T.l := by rw [sizeG_say, h]
  have hb : tunB (sizeG l / 4) (flG T.o l).toNat T.p.toNat T.v.toNat l T.D = bytD T := by unfold tunB bytD; rw [sizeG_say, flG_say, optB_say, h]
  unfold putD
  by_cases h1 : rightD T = false
  · rw [if_pos h1]; unfold putR; rw [hr, if_pos h1]
  · rw [if_neg h1]
    by_cases h2 : 252 < sizeD T.l
    · rw [if_pos h2]; unfold putR; rw [hr, if_neg h1, hs, if_pos h2]
    · rw [if_neg h2, putR_ok _ _ _ _ _ _ _ (by rw [hr]; simpa using h1) (by omega) (by unfold flG; cases T.o <;> cases critG l <;> simp), hb]
end Go.Proofs.Ytdlilokmfekndaa
