/-
  Two wheels side by side; rows that are kept beside them. In two steps as in one: mathematics.
-/
import Derived.Test.YtjdedlmphghpnaaWib
import Derived.Test.YtjdedlmphghpnaaRowH
namespace Go.Proofs.Ytjdedlmphghpnaa
open Go.RowKit
set_option maxRecDepth 100000
set_option linter.unusedVariables false

theorem row_lower {w : World} {base b2 e k n : Nat} {v : Value} {xs : List Value} (h : w.ownsRow base e k v n xs) (hb : b2 ≤ base) : w.ownsRow b2 e k v n xs := by
  refine ⟨h.1, ?_⟩
  rcases h.2 with hn | ⟨g, cap, cur, e', h1, rest⟩
  · exact .inl hn
  · exact .inr ⟨g, cap, cur, e', Nat.le_trans hb h1, rest⟩
structure PairF (w0 wr : World) (pv pw : Nat) (nv nw : Int) (Dv Dw : List (Int × Int)) (R : List (Value × List (Int × Int))) (F G : Nat → Prop) : Prop where
  v : WhW wr pv nv Dv F
  u : WhW wr pw nw Dw G
  dis : ∀ k, F k → ¬ G k
  kf : KeptF w0.heap.size w0 wr F
  kg : KeptF w0.heap.size w0 wr G
  rows : ∀ x ∈ R, wr.ownsRow w0.heap.size 43 2 x.1 x.2.length (rowD x.2) ∧ ∀ g, x.1.ownBlock = some g → ¬ F g ∧ ¬ G g
def PairW (w0 wr : World) (pv pw : Nat) (nv nw : Int) (Dv Dw : List (Int × Int)) (R : List (Value × List (Int × Int))) : Prop := ∃ F G, PairF w0 wr pv pw nv nw Dv Dw R F G
section
variable {w0 wr w' : World} {pv pw : Nat} {nv nw nv' : Int} {Dv Dw Dv' : List (Int × Int)} {R : List (Value × List (Int × Int))} {F G F' : Nat → Prop}
theorem PairF.swap (h : PairF w0 wr pv pw nv nw Dv Dw R F G) : PairF w0 wr pw pv nw nv Dw Dv R G F :=
  ⟨h.u, h.v, fun k hg hf => h.dis k hf hg, h.kg, h.kf, fun x hx => ⟨(h.rows x hx).1, fun g hg => ⟨((h.rows x hx).2 g hg).2, ((h.rows x hx).2 g hg).1⟩⟩⟩
theorem PairW.swap (h : PairW w0 wr pv pw nv nw Dv Dw R) : PairW w0 wr pw pv nw nv Dw Dv R := by
  obtain ⟨F, G, h⟩ := h
  exact ⟨G, F, h.swap⟩
theorem PairF.step (h : PairF w0 wr pv pw nv nw Dv Dw R F G) (h' : WhW w' pv nv' Dv' F') (hs : StW wr w' F F') : PairF w0 w' pv pw nv' nw Dv' Dw R F' G := by
  obtain ⟨h1, h2⟩ := h.u.step hs (fun k hk hf => h.dis k hf hk)
  have k1 := h.kf.step hs
  refine ⟨h', h1, fun k hf hg => h2 k hg hf, k1, ⟨k1.1, k1.2.1, h.kg.2.2⟩, fun x hx => ?_⟩
  obtain ⟨r1, r2⟩ := h.rows x hx
  obtain ⟨r3, r4⟩ := hs.row r1 (fun g hg => (r2 g hg).1)
  exact ⟨r3, fun g hg => ⟨r4 g hg, (r2 g hg).2⟩⟩
theorem PairW.bel (h : PairW w0 wr pv pw nv nw Dv Dw R) (hb : Below wr.heap.size wr w') : PairW w0 w' pv pw nv nw Dv Dw R := by
  obtain ⟨F, G, h⟩ := h
  exact ⟨F, G, h.step (h.v.bel hb) (StW.below hb F)⟩
theorem PairW.below (h : PairW w0 wr pv pw nv nw Dv Dw R) : Below w0.heap.size w0 wr ∧ w0.heap.size ≤ wr.heap.size := by
  obtain ⟨F, G, h⟩ := h
  exact ⟨h.kf.1, h.kf.2.1⟩
theorem PairW.row (h : PairW w0 wr pv pw nv nw Dv Dw R) {x : Value × List (Int × Int)} (hx : x ∈ R) : wr.ownsRow w0.heap.size 43 2 x.1 x.2.length (rowD x.2) := by
  obtain ⟨F, G, h⟩ := h
  exact (h.rows x hx).1
theorem PairW.set (h : PairW w0 wr pv pw nv nw Dv Dw R) (id at_ : Int) :
    Calls Try.prog 12 #[.pointer (some ⟨pv, 0, none⟩), .int .i64 id, .int .i64 at_] wr fun e w' => e = .returned (.int .i64 (setE nv Dv id at_)) ∧ PairW w0 w' pv pw nv nw (setR nv Dv id at_) Dw R := by
  obtain ⟨F, G, h⟩ := h
  refine (setW_any h.v id at_).mono ?_
  rintro e w' ⟨F', rfl, h1, h2⟩
  exact ⟨rfl, F', G, h.step h1 h2⟩
theorem PairW.drop (h : PairW w0 wr pv pw nv nw Dv Dw R) (id : Int) :
    Calls Try.prog 14 #[.pointer (some ⟨pv, 0, none⟩), .int .i64 id] wr fun e w' => e = .returned (.bool (findD id Dv).isSome) ∧ PairW w0 w' pv pw nv nw (dropD id Dv) Dw R := by
  obtain ⟨F, G, h⟩ := h
  refine (dropW_any h.v id).mono ?_
  rintro e w' ⟨F', rfl, h1, h2⟩
  exact ⟨rfl, F', G, h.step h1 h2⟩
theorem PairW.adv (h : PairW w0 wr pv pw nv nw Dv Dw R) {to : Int} (hto : nv ≤ to ∧ to ≤ 1099511627776) :
    Calls Try.prog 16 #[.pointer (some ⟨pv, 0, none⟩), .int .i64 to] wr fun e w' => ∃ t, e = .returned (.tuple #[t, .int .i64 0]) ∧ PairW w0 w' pv pw to nw (Dv.drop (cutN to Dv)) Dw ((t, Dv.take (cutN to Dv)) :: R) := by
  obtain ⟨F, G, h⟩ := h
  refine (advW_any h.v hto).mono ?_
  rintro e w' ⟨t, F', rfl, h1, h2, h3, h4⟩
  have hp := h.step h2 h3
  refine ⟨t, rfl, F', G, hp.v, hp.u, hp.dis, hp.kf, hp.kg, fun x hx => ?_⟩
  rcases List.mem_cons.1 hx with e | e
  · subst e
    have hl : (Dv.take (cutN to Dv)).length = cutN to Dv := by rw [List.length_take]; have := cutN_le to Dv; omega
    dsimp only
    rw [hl]
    refine ⟨row_lower h1 h.kf.2.1, fun g hg => ⟨h4 g hg, fun hgg => ?_⟩⟩
    have := (h1.lt g hg).1
    have := h.u.lt g hgg
    omega
  · exact hp.rows x e
theorem PairW.len (h : PairW w0 wr pv pw nv nw Dv Dw R) : Calls Try.prog 21 #[.pointer (some ⟨pv, 0, none⟩)] wr fun e w' => e = .returned (.int .i64 (Dv.length : Int)) ∧ wr = w' := by
  obtain ⟨F, G, h⟩ := h
  exact lenW_any h.v
theorem PairW.ok (h : PairW w0 wr pv pw nv nw Dv Dw R) : OkD nv Dv := by
  obtain ⟨F, G, h⟩ := h
  exact h.v.ok
end
/-- two new wheels. -/
theorem PairW.new {w0 w1 w2 : World} {pv pw : Nat} {F G : Nat → Prop} (hb1 : Below w0.heap.size w0 w1) (hv : WhW w1 pv 0 [] F) (hF : ∀ k, F k → k = pv) (hp : w0.heap.size ≤ pv) (hb2 : Below w1.heap.size w1 w2) (hw : WhW w2 pw 0 [] G) (hG : ∀ k, G k → k = pw) (hq : w1.heap.size ≤ pw) :
    PairW w0 w2 pv pw 0 0 [] [] [] := by
  have hkf : KeptF w0.heap.size w0 w1 F := ⟨hb1, hb1.size, fun k hk => by rw [hF k hk]; exact hp⟩
  have k2 := hkf.bel hb2
  refine ⟨F, G, hv.bel hb2, hw, fun k hf hg => ?_, k2, ⟨k2.1, k2.2.1, fun k hk => by rw [hG k hk]; have := hb1.size; omega⟩, fun x hx => by simp at hx⟩
  have := hv.lt k hf
  rw [hG k hg] at this
  omega
theorem cut_two {D : List (Int × Int)} (h : D.Pairwise ltD) {a b : Int} (hab : a ≤ b) : D.take (cutN a D) ++ (D.drop (cutN a D)).take (cutN b (D.drop (cutN a D))) = D.take (cutN b D) ∧ (D.drop (cutN a D)).drop (cutN b (D.drop (cutN a D))) = D.drop (cutN b D) := by
  have hs : (D.drop (cutN a D)).Pairwise ltD := h.sublist (List.drop_sublist _ _)
  rw [(cut_take b hs).1, (cut_take b hs).2, (cut_take a h).1, (cut_take a h).2, (cut_take b h).1, (cut_take b h).2, List.filter_filter, List.filter_filter, filter_split h hab]
  refine ⟨?_, ?_⟩
  · congr 1
    refine List.filter_congr fun q _ => ?_
    rw [Bool.and_comm]
  · refine List.filter_congr fun q _ => ?_
    rw [Bool.eq_iff_iff]
    simp only [Bool.and_eq_true, decide_eq_true_eq]
    omega
end Go.Proofs.Ytjdedlmphghpnaa
