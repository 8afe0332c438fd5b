/-
  Calls of a store as rows, what stays of a flow, and the walk of StoreQuiet.
-/
import Derived.Test.YtbkipfmnbfjkcaaRowT
import Derived.Test.YtbkipfmnbfjkcaaVk
import Derived.Test.YtbkipfmnbfjkcaaVp
import Derived.Deep.SlicePairs
import Derived.Test.YtbkipfmnbfjkcaaVz
namespace Go.Proofs.Ytbkipfmnbfjkcaa
open Go.ChangeShapes Go.WideShapes Go.ChangeAt Go.RowKit Go.Deep
set_option linter.unusedVariables false
set_option maxRecDepth 100000

structure ActQ where
  kind : Int
  t : TK
  fl : Int
  now : Int
  z : Int
  b : Int
  g : Int
instance : Inhabited ActQ := ⟨⟨0, tkZ, 0, 0, 0, 0, 0⟩⟩
def actL (a : ActQ) : List Value := .int .i64 a.kind :: (tupL a.t.1 ++ [.int .i64 a.fl, .int .i64 a.now, .int .i64 a.z, .int .i64 a.b, .int .i64 a.g])
def actA (a : ActQ) : Array Value := (actL a).toArray
theorem cells_i64Q : Try.prog.cellsOf 2 = 1 := by kernel_rfl
theorem bytes_actQ : Try.prog.bytesOf 70 = 112 := by kernel_rfl
theorem cells_actQ : Try.prog.cellsOf 70 = 43 := by kernel_rfl
theorem le_actsQ {n : Nat} (h : n * Try.prog.bytesOf 70 ≤ 140737488351232) : n * Try.prog.bytesOf 5 ≤ 8796093022208 := by rw [bytes_actQ] at h; rw [bytes_u8]; omega
theorem trod_tupQ {H : Type} {enc : TypeId × Value → H} {W : World} {base : Nat} {spare : Nat → Bool} {held : Bool} {fuel : Nat} {cs : List Value} {x : DataW H × List MemPlace} (hs : cs.length = 37) (hf : DataW.trod enc Try.prog W base spare held fuel 63 cs = some x) :
    ∃ t : TK, cs = tupL t.1 := by
  obtain ⟨f0, f1, f2, f3, f4, hu, ⟨t0, o0⟩, ⟨t1, o1⟩, ⟨t2, o2⟩, ⟨t3, o3⟩, t4, o4⟩ := fields_of_tup
  obtain ⟨xs, n, rfl, _, hlen, hxl, hg⟩ := DataW.trod_struct hu hf
  have hg0 := hg 0 f0 rfl
  have hg1 := hg 1 f1 rfl
  have hg2 := hg 2 f2 rfl
  have hg3 := hg 3 f3 rfl
  have hg4 := hg 4 f4 rfl
  rw [t0, o0, cells_ad] at hg0
  rw [t1, o1, cells_ad] at hg1
  rw [t2, o2, cells_int] at hg2
  rw [t3, o3, cells_int] at hg3
  rw [t4, o4, cells_int] at hg4
  match xs, hxl with
  | [y0, y1, y2, y3, y4], _ =>
    have h0 : DataW.trod enc Try.prog W base spare held n 61 ((cs.drop 0).take 17) = some y0 := hg0
    have h1 : DataW.trod enc Try.prog W base spare held n 61 ((cs.drop 17).take 17) = some y1 := hg1
    have h2 : DataW.trod enc Try.prog W base spare held n 3 ((cs.drop 34).take 1) = some y2 := hg2
    have h3 : DataW.trod enc Try.prog W base spare held n 3 ((cs.drop 35).take 1) = some y3 := hg3
    have h4 : DataW.trod enc Try.prog W base spare held n 3 ((cs.drop 36).take 1) = some y4 := hg4
    obtain ⟨k, l, hl, e0⟩ := trod_ad (by rw [List.length_take, List.length_drop, hs]; decide) h0
    obtain ⟨k', l', hl', e1⟩ := trod_ad (by rw [List.length_take, List.length_drop, hs]; decide) h1
    obtain ⟨z2, e2, _, _⟩ := DataW.trod_int Try.underlying3 h2
    obtain ⟨z3, e3, _, _⟩ := DataW.trod_int Try.underlying3 h3
    obtain ⟨z4, e4, _, _⟩ := DataW.trod_int Try.underlying3 h4
    have hc : cs = tupL ⟨k, l, k', l', z2, z3, z4⟩ := by
      have s0 : cs = (cs.drop 0).take 17 ++ cs.drop 17 := by rw [List.drop_zero, List.take_append_drop]
      have s1 : cs.drop 17 = (cs.drop 17).take 17 ++ cs.drop 34 := by
        have := (List.take_append_drop 17 (cs.drop 17)).symm
        rwa [List.drop_drop] at this
      have s2 : cs.drop 34 = (cs.drop 34).take 1 ++ cs.drop 35 := by
        have := (List.take_append_drop 1 (cs.drop 34)).symm
        rwa [List.drop_drop] at this
      have s3 : cs.drop 35 = (cs.drop 35).take 1 ++ cs.drop 36 := by
        have := (List.take_append_drop 1 (cs.drop 35)).symm
        rwa [List.drop_drop] at this
      have s4 : cs.drop 36 = (cs.drop 36).take 1 := by rw [List.take_of_length_le (by rw [List.length_drop, hs]; decide)]
      rw [s0, s1, s2, s3, s4, e0, e1, e2, e3, e4]
      rfl
    exact ⟨⟨⟨k, l, k', l', z2, z3, z4⟩, hl, hl'⟩, hc⟩
theorem fields_actQ : ∃ f0 f1 f2 f3 f4 f5 f6 : Field, Try.prog.underlying 70 = some (.struct #[f0, f1, f2, f3, f4, f5, f6]) ∧ (f0.type = 3 ∧ f0.offset = 0) ∧ (f1.type = 63 ∧ f1.offset = 1) ∧ (f2.type = 3 ∧ f2.offset = 38) ∧ (f3.type = 2 ∧ f3.offset = 39) ∧ (f4.type = 2 ∧ f4.offset = 40) ∧ (f5.type = 3 ∧ f5.offset = 41) ∧ (f6.type = 2 ∧ f6.offset = 42) :=
  ⟨_, _, _, _, _, _, _, Try.underlying70, ⟨rfl, rfl⟩, ⟨rfl, rfl⟩, ⟨rfl, rfl⟩, ⟨rfl, rfl⟩, ⟨rfl, rfl⟩, ⟨rfl, rfl⟩, ⟨rfl, rfl⟩⟩
theorem trod_actQ {H : Type} {enc : TypeId × Value → H} {W : World} {base : Nat} {spare : Nat → Bool} {held : Bool} {fuel : Nat} {cs : List Value} {x : DataW H × List MemPlace} (hsz : cs.length = 43) (h : DataW.trod enc Try.prog W base spare held fuel 70 cs = some x) :
    ∃ a : ActQ, cs = actL a := by
  obtain ⟨f0, f1, f2, f3, f4, f5, f6, hu, ⟨t0, o0⟩, ⟨t1, o1⟩, ⟨t2, o2⟩, ⟨t3, o3⟩, ⟨t4, o4⟩, ⟨t5, o5⟩, t6, o6⟩ := fields_actQ
  obtain ⟨xs, n, rfl, _, hlen, hxl, hg⟩ := DataW.trod_struct hu h
  have hg0 := hg 0 f0 rfl
  have hg1 := hg 1 f1 rfl
  have hg2 := hg 2 f2 rfl
  have hg3 := hg 3 f3 rfl
  have hg4 := hg 4 f4 rfl
  have hg5 := hg 5 f5 rfl
  have hg6 := hg 6 f6 rfl
  rw [t0, o0, cells_int] at hg0
  rw [t1, o1, cells_tup] at hg1
  rw [t2, o2, cells_int] at hg2
  rw [t3, o3, cells_i64Q] at hg3
  rw [t4, o4, cells_i64Q] at hg4
  rw [t5, o5, cells_int] at hg5
  rw [t6, o6, cells_i64Q] at hg6
  match xs, hxl with
  | [y0, y1, y2, y3, y4, y5, y6], _ =>
    have h0 : DataW.trod enc Try.prog W base spare held n 3 ((cs.drop 0).take 1) = some y0 := hg0
    have h1 : DataW.trod enc Try.prog W base spare held n 63 ((cs.drop 1).take 37) = some y1 := hg1
    have h2 : DataW.trod enc Try.prog W base spare held n 3 ((cs.drop 38).take 1) = some y2 := hg2
    have h3 : DataW.trod enc Try.prog W base spare held n 2 ((cs.drop 39).take 1) = some y3 := hg3
    have h4 : DataW.trod enc Try.prog W base spare held n 2 ((cs.drop 40).take 1) = some y4 := hg4
    have h5 : DataW.trod enc Try.prog W base spare held n 3 ((cs.drop 41).take 1) = some y5 := hg5
    have h6 : DataW.trod enc Try.prog W base spare held n 2 ((cs.drop 42).take 1) = some y6 := hg6
    obtain ⟨z0, e0, _, _⟩ := DataW.trod_int Try.underlying3 h0
    obtain ⟨t, e1⟩ := trod_tupQ (by rw [List.length_take, List.length_drop, hsz]; decide) h1
    obtain ⟨z2, e2, _, _⟩ := DataW.trod_int Try.underlying3 h2
    obtain ⟨z3, e3, _, _⟩ := DataW.trod_int Try.underlying2 h3
    obtain ⟨z4, e4, _, _⟩ := DataW.trod_int Try.underlying2 h4
    obtain ⟨z5, e5, _, _⟩ := DataW.trod_int Try.underlying3 h5
    obtain ⟨z6, e6, _, _⟩ := DataW.trod_int Try.underlying2 h6
    refine ⟨⟨z0, t, z2, z3, z4, z5, z6⟩, ?_⟩
    have step : ∀ a b : Nat, cs.drop a = (cs.drop a).take b ++ cs.drop (a + b) := fun a b => by
      have := (List.take_append_drop b (cs.drop a)).symm
      rwa [List.drop_drop] at this
    have s0 : cs = (cs.drop 0).take 1 ++ cs.drop 1 := by rw [List.drop_zero, List.take_append_drop]
    have s6 : cs.drop 42 = (cs.drop 42).take 1 := by rw [List.take_of_length_le (by rw [List.length_drop, hsz]; decide)]
    rw [s0, step 1 37, step 38 1, step 39 1, step 40 1, step 41 1, s6, e0, e1, e2, e3, e4, e5, e6]
    rfl
theorem open_actsQ (K : Nat) {H : Type} {enc : TypeId × Value → H} {W : World} {a0 : Option Addr} {len cap : Nat} {d : DataW H} {p : List MemPlace}
    (h : DataW.Trod enc Try.prog W 0 (fun _ => true) true 53 (.slice a0 len cap) d p)
    (hsz : ∀ elems spare, d = .slice elems spare → (elems.length + spare.length) * Try.prog.bytesOf 5 ≤ K) :
    ∃ l : List ActQ, len = l.length ∧ l.length ≤ cap ∧ cap ≤ K ∧ RowK 43 W a0 (l.map actA) := by
  obtain ⟨fuel, hf⟩ := h
  rcases open_slice Try.underlying53 hf with ⟨hcs, _⟩ | ⟨x, l, c, m, n, D, Pl, hcs, hb, hl, hm, hmm, hx, hcell⟩
  · simp [Value.cells] at hcs
    obtain ⟨rfl, rfl, rfl⟩ := hcs
    exact ⟨[], rfl, by simp, by omega, RowK.nil _ _ _⟩
  · simp [Value.cells] at hcs
    obtain ⟨rfl, rfl, rfl⟩ := hcs
    obtain rfl : m = cap := by simpa using hmm
    simp only [Prod.mk.injEq] at hx
    have hs := hsz _ _ hx.1
    rw [bytes_u8] at hs
    simp only [List.length_map, List.length_range] at hs
    have each : ∀ i, i < m → ∃ q : ActQ, ∀ j v, (actL q)[j]? = some v → W.cell? (x.add (i * 43 + j)) = some v := fun i hi => by
      obtain ⟨cs', h1, h2⟩ := hcell i hi
      rw [cells_actQ] at h1
      obtain ⟨_, hlen, hc⟩ := World.cells?_some h1
      obtain ⟨q, rfl⟩ := trod_actQ hlen h2
      refine ⟨q, fun j v hj => ?_⟩
      obtain ⟨hjl, hjv⟩ := List.getElem?_eq_some_iff.1 hj
      have := hc j (by omega)
      rw [add_add] at this
      rw [this]
      simpa using hj
    obtain ⟨q, hq⟩ := choose_lt each
    refine ⟨(List.range len).map q, by simp, by simp; omega, by omega, fun j Z hj => ?_⟩
    obtain ⟨hjl, hjz⟩ := List.getElem?_eq_some_iff.1 hj
    have hjl' : j < len := by simpa using hjl
    have hz : Z = actA (q j) := by rw [← hjz]; simp
    obtain ⟨b, off, spot⟩ := x
    have hspot : spot = none := by
      have h3 := hq 0 (by omega) 0 (.int .i64 (q 0).kind) rfl
      have := World.cell?_spot h3
      simpa [Addr.add] using this
    subst hspot
    have h43 : (actL (q j)).length = 43 := by have := (tupA_tu (q j).t).size; simp [tupA] at this; simp [actL, this]
    have hlast := hq j (by omega) 42 (.int .i64 (q j).g) (by
      have := (tupA_tu (q j).t).size; simp [tupA] at this
      unfold actL
      rw [show (42 : Nat) = 41 + 1 from rfl, List.getElem?_cons_succ, List.getElem?_append_right (by omega), this]; rfl)
    rw [add_none] at hlast
    obtain ⟨Y, t, fr, hY, hy0⟩ := cell_blk hlast
    have hlt := (Array.getElem?_eq_some_iff.1 hy0).1
    refine ⟨b, off, Y, t, fr, rfl, (Array.getElem?_eq_some_iff.1 hY).1, hY, by omega, ?_⟩
    subst hz
    apply Array.ext_getElem?
    intro i
    rw [Array.getElem?_extract]
    by_cases hi : i < 43
    · rw [if_pos (by omega)]
      have hv : (actL (q j))[i]? = some (actL (q j))[i] := List.getElem?_eq_getElem (by omega)
      have := hq j (by omega) i _ hv
      rw [add_none, cell_of_row W b _ Y t fr hY] at this
      rw [show off + j * 43 + i = off + (j * 43 + i) by omega, this]
      unfold actA
      rw [List.getElem?_toArray, hv]
    · rw [if_neg (by omega)]
      unfold actA
      rw [List.getElem?_toArray, List.getElem?_eq_none (by omega)]
end Go.Proofs.Ytbkipfmnbfjkcaa
namespace Go.Proofs.Ytbkipfmnbfjkcaa
open Go.RowKit
set_option linter.unusedVariables false
set_option linter.unusedSimpArgs false
theorem lookU_put_other {k k' : Int × Int} (z : Int) (hne : k ≠ k') : ∀ (u : List ((Int × Int) × Int)), lookU k (putU k' z u) = lookU k u
  | [] => by
    have : decide (k = k') = false := by simpa using hne
    simp [lookU, putU, this]
  | a :: u => by
    unfold putU
    have hd : decide (k = k') = false := by simpa using hne
    by_cases h : k' = a.1
    · rw [if_pos h]
      have h2 : decide (k = a.1) = false := by rw [← h]; exact hd
      simp [lookU, List.find?_cons, hd, h2]
    · rw [if_neg h]
      have := lookU_put_other z hne u
      unfold lookU at this ⊢
      simp only [List.find?_cons]
      cases hk : decide (k = a.1) with
      | true => rfl
      | false => exact this
theorem busy_iff (b g now : Int) (l : List PinR) (u : List ((Int × Int) × Int)) : busyL b g now l u = false ↔ (∀ z, lookU (b, g) u = some z → z < now) ∧ (∀ q ∈ l, q.b = b → q.g = g → liveB q.f now = false) := by
  unfold busyL cntL
  rw [Bool.or_eq_false_iff]
  refine and_congr ?_ ?_
  · cases lookU (b, g) u with
    | none => simp
    | some z => simp
  · simp only [decide_eq_false_iff_not, Nat.not_lt, Nat.le_zero, List.length_eq_zero_iff, List.filter_eq_nil_iff, Bool.and_eq_true, beq_iff_eq, not_and]
    constructor
    · intro h q hq h1 h2
      cases hl : liveB q.f now with
      | false => rfl
      | true => exact absurd h2 (h q hq hl h1)
    · intro h q hq hl h1 h2
      rw [h q hq h1 h2] at hl
      cases hl
theorem live_back {f : Flw} {n0 n1 : Int} (h0 : f.l ≤ n0) (h1 : n0 ≤ n1) (h : liveB f n1 = true) : liveB f n0 = true := by
  obtain ⟨a, b, c, d⟩ := liveB_iff.1 h
  exact liveB_iff.2 ⟨a, b, h0, by omega⟩
theorem putP_len (q : PinR) : ∀ (l : List PinR), (putP q l).length ≤ l.length + 1
  | [] => by simp [putP]
  | a :: l => by
    unfold putP
    split
    · simp
    · simp only [List.length_cons]; have := putP_len q l; omega
/-- all came by now. -/
def Came (now : Int) (l : List PinR) : Prop := ∀ q ∈ l, q.f.l ≤ now
theorem get_mem {t : TK} {now : Int} {l : List PinR} {q : PinR} (h : getP t now l = some q) : q ∈ l ∧ q.t = t ∧ liveB q.f now = true := by
  unfold getP at h
  rw [Option.filter_eq_some_iff] at h
  obtain ⟨h1, h2⟩ := h
  unfold lookP at h1
  have h3 := List.find?_some h1
  exact ⟨List.mem_of_find?_eq_some h1, by have : t = q.t := by simpa using h3
                                          exact this.symm, h2⟩
theorem quiet_later {b g n0 n1 : Int} {l : List PinR} {u : List ((Int × Int) × Int)} (hc : Came n0 l) (h01 : n0 ≤ n1) (h : busyL b g n0 l u = false) : busyL b g n1 l u = false := by
  rw [busy_iff] at h ⊢
  refine ⟨fun z hz => by have := h.1 z hz; omega, fun q hq h1 h2 => ?_⟩
  cases hl : liveB q.f n1 with
  | false => rfl
  | true =>
    have := live_back (hc q hq) h01 hl
    rw [h.2 q hq h1 h2] at this
    cases this
theorem step_last {f : Flw} {fl now : Int} (h : (stepF f fl now).2 = 0) : (stepF f fl now).1.l = now := by
  rcases step_cases f fl now with h1 | h1
  · exact h1.2.2.1
  · exact absurd h h1.1
theorem begin_last {p fl now : Int} (h : (beginF p fl now).2 = 0) : (beginF p fl now).1.l = now := by
  unfold beginF at h ⊢
  split at h
  · simp at h
  · split at h
    · simp at h
    · split at h
      · simp at h
      · next h1 h2 h3 => rw [if_neg h1, if_neg h2, if_neg h3]
/-- what another packet leaves. -/
theorem packet_inv {b g n0 n1 : Int} {l : List PinR} {u : List ((Int × Int) × Int)} {t : TK} {fl z : Int} (hc : Came n0 l) (h01 : n0 ≤ n1) :
    Came n1 (packetS l u t fl n1 z).2.1 ∧ (packetS l u t fl n1 z).2.1.length ≤ l.length + 1 ∧ (busyL b g n0 l u = false → busyL b g n1 (packetS l u t fl n1 z).2.1 (packetS l u t fl n1 z).2.2 = false) := by
  have hc1 : Came n1 l := fun q hq => Int.le_trans (hc q hq) h01
  unfold packetS
  split
  · exact ⟨hc1, Nat.le_succ _, fun h => quiet_later hc h01 h⟩
  split
  · exact ⟨hc1, Nat.le_succ _, fun h => quiet_later hc h01 h⟩
  split
  · exact ⟨hc1, Nat.le_succ _, fun h => quiet_later hc h01 h⟩
  next _ hg he =>
    obtain ⟨q, hq⟩ : ∃ q, getP t n1 l = some q := by
      cases hg2 : getP t n1 l with
      | none => rw [hg2] at hg; simp at hg
      | some q => exact ⟨q, rfl⟩
    rw [hq] at he ⊢
    simp only [pinO] at he ⊢
    have he0 : (stepF q.f fl n1).2 = 0 := by simpa using he
    obtain ⟨hm, ht, hl⟩ := get_mem hq
    refine ⟨fun x hx => ?_, putP_len _ _, fun h => ?_⟩
    · rcases putP_mem hx with rfl | hx
      · exact Int.le_of_eq (step_last he0)
      · exact hc1 x hx
    · have hb := (busy_iff b g n0 l u).1 h
      have hne : ¬ (q.b = b ∧ q.g = g) := fun ⟨e1, e2⟩ => by
        have := live_back (hc q hm) h01 hl
        rw [hb.2 q hm e1 e2] at this
        cases this
      have hlat := (busy_iff b g n1 l u).1 (quiet_later hc h01 h)
      rw [busy_iff]
      refine ⟨fun y hy => ?_, fun x hx e1 e2 => ?_⟩
      · unfold untP at hy
        rw [lookU_put_other _ (fun e => hne (by simp only [Prod.mk.injEq] at e; exact ⟨e.1.symm, e.2.symm⟩))] at hy
        exact hlat.1 y hy
      · rcases putP_mem hx with rfl | hx
        · exact absurd ⟨e1, e2⟩ hne
        · exact hlat.2 x hx e1 e2
/-- what a first packet leaves. -/
theorem begin_inv {most b g n0 n1 : Int} {l : List PinR} {u : List ((Int × Int) × Int)} {t : TK} {fl z bk gn : Int} (hc : Came n0 l) (h01 : n0 ≤ n1) :
    Came n1 (beginS most l u t fl n1 z bk gn).2.1 ∧ (beginS most l u t fl n1 z bk gn).2.1.length ≤ l.length + 1 ∧ (busyL b g n0 l u = false → ((beginS most l u t fl n1 z bk gn).1.2 = 0 ∧ bk = b ∧ gn = g) ∨ busyL b g n1 (beginS most l u t fl n1 z bk gn).2.1 (beginS most l u t fl n1 z bk gn).2.2 = false) := by
  have hc1 : Came n1 l := fun q hq => Int.le_trans (hc q hq) h01
  unfold beginS
  split
  · exact ⟨hc1, Nat.le_succ _, fun h => .inr (quiet_later hc h01 h)⟩
  split
  · exact ⟨hc1, Nat.le_succ _, fun h => .inr (quiet_later hc h01 h)⟩
  split
  · exact ⟨hc1, Nat.le_succ _, fun h => .inr (quiet_later hc h01 h)⟩
  split
  · exact ⟨hc1, Nat.le_succ _, fun h => .inr (quiet_later hc h01 h)⟩
  next _ _ he _ =>
    have he0 : (beginF t.1.p fl n1).2 = 0 := by simpa using he
    have hsw : ∀ x ∈ sweepL n1 l, x ∈ l := fun x hx => (List.mem_filter.1 hx).1
    have hsl : (sweepL n1 l).length ≤ l.length := List.length_filter_le _ _
    refine ⟨fun x hx => ?_, Nat.le_trans (putP_len _ _) (by omega), fun h => ?_⟩
    · rcases putP_mem hx with rfl | hx
      · exact Int.le_of_eq (begin_last he0)
      · exact hc1 x (hsw x hx)
    · by_cases hne : bk = b ∧ gn = g
      · exact .inl ⟨rfl, hne⟩
      · right
        have hlat := (busy_iff b g n1 l u).1 (quiet_later hc h01 h)
        rw [busy_iff]
        refine ⟨fun y hy => ?_, fun x hx e1 e2 => ?_⟩
        · unfold untP at hy
          rw [lookU_put_other _ (fun e => hne (by simp only [Prod.mk.injEq] at e; exact ⟨e.1.symm, e.2.symm⟩))] at hy
          exact hlat.1 y hy
        · rcases putP_mem hx with rfl | hx
          · exact absurd ⟨e1, e2⟩ hne
          · exact hlat.2 x (hsw x hx) e1 e2
end Go.Proofs.Ytbkipfmnbfjkcaa
namespace Go.Proofs.Ytbkipfmnbfjkcaa
open Go.RowKit
set_option maxRecDepth 100000
set_option linter.unusedVariables false
set_option linter.unusedSimpArgs false
attribute [local go_sem ↓] exec_span exec_put exec_build heap_alloc_new heap_old
attribute [local go_sem] spanQ_ptr spanC_some heap_of_drew heap_of_drewN putAt_ptr putOk_ptr oldOk_some World.setRow_alloc_new rs_Flow rs_Pin rs_Com rs_Sto rs_Que rs_tup built_pin0 built_com built_pin pinZ_lit tkZ_lit built_que
def actZ : ActQ := ⟨0, tkZ, 0, 0, 0, 0, 0⟩
theorem actZ_lit : #[Value.int .i64 0, .bool false, .int .u8 0, .int .u8 0, .int .u8 0, .int .u8 0, .int .u8 0, .int .u8 0, .int .u8 0, .int .u8 0, .int .u8 0, .int .u8 0, .int .u8 0, .int .u8 0, .int .u8 0, .int .u8 0, .int .u8 0, .int .u8 0, .bool false, .int .u8 0, .int .u8 0, .int .u8 0, .int .u8 0, .int .u8 0, .int .u8 0, .int .u8 0, .int .u8 0, .int .u8 0, .int .u8 0, .int .u8 0, .int .u8 0, .int .u8 0, .int .u8 0, .int .u8 0, .int .u8 0, .int .i64 0, .int .i64 0, .int .i64 0, .int .i64 0, .int .i64 0, .int .i64 0, .int .i64 0, .int .i64 0] = actA actZ := by rfl
theorem rs_ActQ : rowSize Try.prog 70 = some 43 := by kernel_rfl
attribute [local go_sem] actZ_lit rs_ActQ
theorem act_size (a : ActQ) : (actA a).size = 43 := by simp [actA, actL, tupL_len]
theorem act_x (a : ActQ) : (actA a).extract 0 43 = actA a := by rw [← act_size a]; simp
theorem act_c0 (a : ActQ) : (actA a)[0]? = some (.int .i64 a.kind) := by unfold actA; rw [List.getElem?_toArray]; rfl
theorem act_tail (a : ActQ) (k : Nat) (v : Value) (h : ([.int .i64 a.fl, .int .i64 a.now, .int .i64 a.z, .int .i64 a.b, .int .i64 a.g] : List Value)[k]? = some v) : (actA a)[38 + k]? = some v := by
  unfold actA
  rw [List.getElem?_toArray]
  unfold actL
  rw [show 38 + k = (37 + k) + 1 by omega, List.getElem?_cons_succ, List.getElem?_append_right (by rw [tupL_len]; omega), tupL_len, show 37 + k - 37 = k by omega]
  exact h
theorem act_tu (a : ActQ) : (actA a).extract 1 38 = tupA a.t := by
  apply Array.ext_getElem?
  intro i
  rw [Array.getElem?_extract, act_size]
  by_cases hi : i < 37
  · rw [if_pos (by omega)]
    unfold actA tupA
    rw [List.getElem?_toArray, List.getElem?_toArray]
    unfold actL
    rw [show 1 + i = i + 1 by omega, List.getElem?_cons_succ, List.getElem?_append_left (by rw [tupL_len]; omega)]
  · rw [if_neg (by omega), Array.getElem?_eq_none (by rw [tup_size]; omega)]
theorem act_one (a : ActQ) : allOne (actA a) = true := by
  refine all_oneCell_toArray fun u hu => ?_
  rcases List.mem_cons.1 hu with rfl | hu
  · rfl
  rcases List.mem_append.1 hu with hu | hu
  · have := tup_one a.t
    unfold allOne at this
    rw [Array.all_eq_true] at this
    obtain ⟨i, hi, rfl⟩ := List.getElem_of_mem hu
    exact this i (by rw [tup_size]; rw [tupL_len] at hi; exact hi)
  · simp only [List.mem_cons, List.not_mem_nil, or_false] at hu
    rcases hu with rfl | rfl | rfl | rfl | rfl <;> rfl
set_option maxHeartbeats 16000000 in
theorem storeQuiet_any (w : World) (A : Option Addr) (n c : Nat) (l0 : List ActQ) (b gn : Int) (hn : n = l0.length) (hnc : n ≤ 8796093022208) (hr : RowK 43 w A (l0.map actA)) : Calls Try.prog 8 #[.slice A n c, .int .i64 b, .int .i64 gn] w (RetV w (.bool true)) := by
  have KR := hide hr
  have HN := hide hn
  have HNC := hide hnc
  have KB0 := hide (fun (W : World) (p bp bu : Nat) (hs : StoS W p bp bu 8 [] []) => busyS_any hs (by simp) b gn 0)
  obtain ⟨B0, hB0⟩ : ∃ B, B = busyL b gn 0 [] [] := ⟨_, rfl⟩
  rw [← hB0] at KB0
  have HB0 := hide hB0
  have KK := hide (fun W => known20_any W)
  have zs := pin_size pinZ
  have zx := pin_x pinZ
  have z1 := pin_one pinZ
  have za := act_size actZ
  clear hr hn hnc hB0
  have HB := hide (Below.refl w.heap.size w)
  go_enter Try.func8, Try.ntmps8
  go_wp2_with fail
  go_at_call 26
  with_reducible refine (newS_any _ 8).mono ?_
  rintro e W1 ⟨b1, hN⟩
  rcases hN with ⟨_, p, bp, bu, rfl, h1, h2, hS⟩ | ⟨hN, _⟩
  case inr => exact absurd (by omega) hN
  have hbp : Hid (w.heap.size ≤ bp) := hide (by have := HB.out.size; omega)
  have hbu : Hid (w.heap.size ≤ bu) := hide (by have := HB.out.size; omega)
  have HS := hide hS
  clear h1 h2 hS
  replace HB := hide (HB.out.trans (b1.mono HB.out.size))
  clear b1
  dsimp only
  go_wp2_with fail
  go_at_call 31
  with_reducible refine (KB0.out _ _ _ _ HS.out).mono ?_
  rintro e W2 ⟨rfl, b2⟩
  replace HS := hide (HS.out.below b2)
  replace HB := hide (HB.out.trans (b2.mono HB.out.size))
  clear b2
  dsimp only
  go_wp2_with fail
  go_loopw [9, 10, 11] (fun v9 v10 v11 wr => ∃ (i : Nat) (now : Int) (qt : Bool) (l : List PinR) (u : List ((Int × Int) × Int)), v9 = .int .i64 now ∧ v10 = .bool qt ∧ v11 = .int .i64 (i : Int) ∧ Hid (i ≤ n ∧ i ≤ 80 ∧ l.length ≤ i ∧ Came now l ∧ (qt = true → busyL b gn now l u = false)) ∧ Hid (StoS wr p bp bu 8 l u) ∧ Hid (Below w.heap.size w wr)) (fun _ _ v11 _ => n - (Go.RowKit.intOf v11).toNat)
  case atStart => exact ⟨0, 0, !B0, [], [], rfl, rfl, rfl, hide ⟨Nat.zero_le _, by omega, Nat.le_refl _, (fun q hq => by simp at hq), (fun h => by rw [HB0.out] at h; simpa using h)⟩, HS, HB⟩
  clear HS HB
  case round =>
    obtain ⟨i, now, qt, l, u, rfl, rfl, rfl, HI, HS, HB⟩ := hrel
    by_cases hlt : i < n ∧ i < 80
    · have hi1 : decide ((i : Int) < (n : Int)) = true := by simp; omega
      have hi2 : decide ((i : Int) < 80) = true := by simp; omega
      have HLT := hide hlt
      have hi3 : i < n := hlt.1
      have hi4 : i < 80 := hlt.2
      have hw1 : wrap64 ((i : Int) + 1) = (i : Int) + 1 := wr64_inV _ (by omega) (by omega)
      have hlt2 : i < l0.length := by rw [← HN.out]; exact hlt.1
      obtain ⟨b0, off, Y, t0, fr, rfl, hbl, hY, hY1, hY2⟩ := (KR.out.below HB.out) i (actA l0[i]) (by simp [hlt2])
      obtain ⟨a, ha⟩ : ∃ a, a = l0[i] := ⟨_, rfl⟩
      rw [← ha] at hY2
      have xs := act_size a
      have xt := act_tu a
      have x1 := act_one a
      clear ha hbl hlt2 hlt
      have N_x := hide HS.out.lt
      obtain ⟨W3, hW3, r_x, z3, b3⟩ := alloc_nm wr (.cells (actA a) 70)
      clear z3
      replace HS := hide (HS.out.below b3)
      replace HB := hide (HB.out.trans (b3.mono HB.out.size))
      clear b3
      have d0 : W3.cell? ⟨wr.heap.size, 0, none⟩ = some (.int .i64 a.kind) := (cell_of_row W3 _ 0 _ _ (0, 0) r_x).trans (act_c0 a)
      have e0 : W3.drew.cell? ⟨wr.heap.size, 0, none⟩ = some (.int .i64 a.kind) := (cell_of_row W3 _ 0 _ _ (0, 0) r_x).trans (act_c0 a)
      have d38 : W3.cell? ⟨wr.heap.size, 38, none⟩ = some (.int .i64 a.fl) := (cell_of_row W3 _ 38 _ _ (0, 0) r_x).trans (act_tail a 0 _ rfl)
      have e38 : W3.drew.cell? ⟨wr.heap.size, 38, none⟩ = some (.int .i64 a.fl) := (cell_of_row W3 _ 38 _ _ (0, 0) r_x).trans (act_tail a 0 _ rfl)
      have d39 : W3.cell? ⟨wr.heap.size, 39, none⟩ = some (.int .i64 a.now) := (cell_of_row W3 _ 39 _ _ (0, 0) r_x).trans (act_tail a 1 _ rfl)
      have e39 : W3.drew.cell? ⟨wr.heap.size, 39, none⟩ = some (.int .i64 a.now) := (cell_of_row W3 _ 39 _ _ (0, 0) r_x).trans (act_tail a 1 _ rfl)
      have d40 : W3.cell? ⟨wr.heap.size, 40, none⟩ = some (.int .i64 a.z) := (cell_of_row W3 _ 40 _ _ (0, 0) r_x).trans (act_tail a 2 _ rfl)
      have e40 : W3.drew.cell? ⟨wr.heap.size, 40, none⟩ = some (.int .i64 a.z) := (cell_of_row W3 _ 40 _ _ (0, 0) r_x).trans (act_tail a 2 _ rfl)
      have d41 : W3.cell? ⟨wr.heap.size, 41, none⟩ = some (.int .i64 a.b) := (cell_of_row W3 _ 41 _ _ (0, 0) r_x).trans (act_tail a 3 _ rfl)
      have e41 : W3.drew.cell? ⟨wr.heap.size, 41, none⟩ = some (.int .i64 a.b) := (cell_of_row W3 _ 41 _ _ (0, 0) r_x).trans (act_tail a 3 _ rfl)
      have d42 : W3.cell? ⟨wr.heap.size, 42, none⟩ = some (.int .i64 a.g) := (cell_of_row W3 _ 42 _ _ (0, 0) r_x).trans (act_tail a 4 _ rfl)
      have e42 : W3.drew.cell? ⟨wr.heap.size, 42, none⟩ = some (.int .i64 a.g) := (cell_of_row W3 _ 42 _ _ (0, 0) r_x).trans (act_tail a 4 _ rfl)
      go_upto_region 10 with (fail)
      clear hY hY1 hY2
      by_cases hg : a.now > now
      · have dg : decide (a.now > now) = true := by simpa using hg
        have dg2 : decide (now < a.now) = true := by simpa using hg
        by_cases hm : a.now ≤ 1099511627776
        · have dm : decide (a.now ≤ 1099511627776) = true := by simpa using hm
          have HN1 : Hid (now ≤ a.now) := hide (by omega)
          clear hg hm
          by_cases hk : a.kind < 2
          · have dk : decide (a.kind < 2) = true := by simpa using hk
            clear hk
            have hinv := packet_inv (b := b) (g := gn) (u := u) (t := a.t) (fl := a.fl) (z := a.z) HI.out.2.2.2.1 HN1.out
            have KP := hide (fun (W : World) (hs : StoS W p bp bu 8 l u) => packetS_any hs a.t a.fl a.now a.z)
            obtain ⟨R, hR⟩ : ∃ R, R = packetS l u a.t a.fl a.now a.z := ⟨_, rfl⟩
            rw [← hR] at hinv KP
            clear hR
            obtain ⟨⟨r1, r2⟩, l1, u1⟩ := R
            dsimp only at hinv
            have HV : Hid (Came a.now l1 ∧ l1.length ≤ l.length + 1 ∧ (qt = true → busyL b gn a.now l1 u1 = false)) := hide ⟨hinv.1, hinv.2.1, fun h => hinv.2.2 (HI.out.2.2.2.2 h)⟩
            clear hinv
            unfold pinEV encT at KP
            dsimp only at KP
            go_wp2_with fail
            go_at_call 30
            with_reducible refine (KP.out _ HS.out).mono ?_
            rintro e W4 ⟨rfl, hS4, hT4⟩
            replace r_x := keepT hT4 (by have := N_x.out; omega) (by have := N_x.out; omega) r_x
            replace HB := hide (Tou.bel HB.out HB.out.size hT4 hbp.out hbu.out)
            replace HS := hide hS4
            clear hS4 hT4
            dsimp only
            clear d0 d38 d39 d40 d41 d42 e0 e38 e39 e40 e41 e42
            have KB := hide (fun (W : World) (hs : StoS W p bp bu 8 l1 u1) => busyS_any hs (by have := HI.out.2.1; have := HI.out.2.2.1; have := HV.out.2.1; omega) b gn a.now)
            obtain ⟨B, hB⟩ : ∃ B, B = busyL b gn a.now l1 u1 := ⟨_, rfl⟩
            rw [← hB] at KB
            have HBB := hide hB
            clear hB
            go_wp2_with fail
            go_at_call 31
            with_reducible refine (KB.out _ HS.out).mono ?_
            rintro e W5 ⟨rfl, b5⟩
            replace r_x := keepB b5 r_x
            replace HS := hide (HS.out.below b5)
            replace HB := hide (HB.out.trans (b5.mono HB.out.size))
            clear b5
            dsimp only
            cases qt
            · skip
              go_wp2_with fail
              go_roundw
              case rel => exact ⟨i + 1, a.now, _, l1, u1, rfl, rfl, by go_num, hide ⟨by have := HLT.out; omega, by have := HLT.out; omega, by have := HI.out.2.2.1; have := HV.out.2.1; omega, HV.out.1, (fun h => by rw [← HBB.out]; simpa using h)⟩, HS, HB⟩
              case measure => simp [Go.RowKit.intOf]; have := HLT.out; omega
            · cases B
              · skip
                go_wp2_with fail
                go_roundw
                case rel => exact ⟨i + 1, a.now, _, l1, u1, rfl, rfl, by go_num, hide ⟨by have := HLT.out; omega, by have := HLT.out; omega, by have := HI.out.2.2.1; have := HV.out.2.1; omega, HV.out.1, (fun _ => HBB.out.symm)⟩, HS, HB⟩
                case measure => simp [Go.RowKit.intOf]; have := HLT.out; omega
              · exact absurd HBB.out (by rw [HV.out.2.2 rfl]; simp)
          · have dk : decide (a.kind < 2) = false := by simpa using hk
            clear hk
            have hinv := begin_inv (most := 8) (b := b) (g := gn) (u := u) (t := a.t) (fl := a.fl) (z := a.z) (bk := a.b) (gn := a.g) HI.out.2.2.2.1 HN1.out
            have KP := hide (fun (W : World) (hs : StoS W p bp bu 8 l u) => beginS_any hs (by have := HI.out.2.1; have := HI.out.2.2.1; omega) a.t a.fl a.now a.z a.b a.g)
            obtain ⟨R, hR⟩ : ∃ R, R = beginS 8 l u a.t a.fl a.now a.z a.b a.g := ⟨_, rfl⟩
            rw [← hR] at hinv KP
            clear hR
            obtain ⟨⟨r1, r2⟩, l1, u1⟩ := R
            dsimp only at hinv
            have HJ := hide hinv
            clear hinv
            unfold pinEV encT at KP
            dsimp only at KP
            have s2 := pin_size r1
            have o2 := pin_one r1
            go_wp2_with fail
            go_at_call 29
            with_reducible refine (KP.out _ HS.out).mono ?_
            rintro e W4 ⟨rfl, hS4, hT4⟩
            replace r_x := keepT hT4 (by have := N_x.out; omega) (by have := N_x.out; omega) r_x
            replace HB := hide (Tou.bel HB.out HB.out.size hT4 hbp.out hbu.out)
            replace HS := hide hS4
            clear hS4 hT4
            dsimp only
            clear d0 d38 d39 d40 d41 d42 e0 e38 e39 e40 e41 e42
            have N_y := hide HS.out.lt
            obtain ⟨W5, hW5, r_y, z5, b5⟩ := alloc_nm W4 (.cells (pinA r1) 66)
            clear z5
            replace r_x := keepB b5 r_x
            replace HS := hide (HS.out.below b5)
            replace HB := hide (HB.out.trans (b5.mono HB.out.size))
            clear b5
            have d0 : W5.cell? ⟨wr.heap.size, 0, none⟩ = some (.int .i64 a.kind) := (cell_of_row W5 _ 0 _ _ (0, 0) r_x).trans (act_c0 a)
            have e0 : W5.drew.cell? ⟨wr.heap.size, 0, none⟩ = some (.int .i64 a.kind) := (cell_of_row W5 _ 0 _ _ (0, 0) r_x).trans (act_c0 a)
            have d38 : W5.cell? ⟨wr.heap.size, 38, none⟩ = some (.int .i64 a.fl) := (cell_of_row W5 _ 38 _ _ (0, 0) r_x).trans (act_tail a 0 _ rfl)
            have e38 : W5.drew.cell? ⟨wr.heap.size, 38, none⟩ = some (.int .i64 a.fl) := (cell_of_row W5 _ 38 _ _ (0, 0) r_x).trans (act_tail a 0 _ rfl)
            have d39 : W5.cell? ⟨wr.heap.size, 39, none⟩ = some (.int .i64 a.now) := (cell_of_row W5 _ 39 _ _ (0, 0) r_x).trans (act_tail a 1 _ rfl)
            have e39 : W5.drew.cell? ⟨wr.heap.size, 39, none⟩ = some (.int .i64 a.now) := (cell_of_row W5 _ 39 _ _ (0, 0) r_x).trans (act_tail a 1 _ rfl)
            have d40 : W5.cell? ⟨wr.heap.size, 40, none⟩ = some (.int .i64 a.z) := (cell_of_row W5 _ 40 _ _ (0, 0) r_x).trans (act_tail a 2 _ rfl)
            have e40 : W5.drew.cell? ⟨wr.heap.size, 40, none⟩ = some (.int .i64 a.z) := (cell_of_row W5 _ 40 _ _ (0, 0) r_x).trans (act_tail a 2 _ rfl)
            have d41 : W5.cell? ⟨wr.heap.size, 41, none⟩ = some (.int .i64 a.b) := (cell_of_row W5 _ 41 _ _ (0, 0) r_x).trans (act_tail a 3 _ rfl)
            have e41 : W5.drew.cell? ⟨wr.heap.size, 41, none⟩ = some (.int .i64 a.b) := (cell_of_row W5 _ 41 _ _ (0, 0) r_x).trans (act_tail a 3 _ rfl)
            have d42 : W5.cell? ⟨wr.heap.size, 42, none⟩ = some (.int .i64 a.g) := (cell_of_row W5 _ 42 _ _ (0, 0) r_x).trans (act_tail a 4 _ rfl)
            have e42 : W5.drew.cell? ⟨wr.heap.size, 42, none⟩ = some (.int .i64 a.g) := (cell_of_row W5 _ 42 _ _ (0, 0) r_x).trans (act_tail a 4 _ rfl)
            by_cases h1 : r2 = 0
            · have f1 : (r2 == 0) = true := by simpa using h1
              by_cases h2 : a.b = b
              · have f2 : (a.b == b) = true := by simpa using h2
                by_cases h3 : a.g = gn
                · have f3 : (a.g == gn) = true := by simpa using h3
                  clear h1 h2 h3
                  have HV : Hid (Came a.now l1 ∧ l1.length ≤ l.length + 1 ∧ True) := hide ⟨HJ.out.1, HJ.out.2.1, trivial⟩
                  have KB := hide (fun (W : World) (hs : StoS W p bp bu 8 l1 u1) => busyS_any hs (by have := HI.out.2.1; have := HI.out.2.2.1; have := HV.out.2.1; omega) b gn a.now)
                  obtain ⟨B, hB⟩ : ∃ B, B = busyL b gn a.now l1 u1 := ⟨_, rfl⟩
                  rw [← hB] at KB
                  have HBB := hide hB
                  clear hB
                  go_wp2_with fail
                  go_at_call 31
                  with_reducible refine (KB.out _ HS.out).mono ?_
                  rintro e W6 ⟨rfl, b6⟩
                  replace r_x := keepB b6 r_x
                  replace r_y := keepB b6 r_y
                  replace HS := hide (HS.out.below b6)
                  replace HB := hide (HB.out.trans (b6.mono HB.out.size))
                  clear b6
                  dsimp only
                  cases qt
                  · skip
                    go_wp2_with fail
                    go_roundw
                    case rel => exact ⟨i + 1, a.now, _, l1, u1, rfl, rfl, by go_num, hide ⟨by have := HLT.out; omega, by have := HLT.out; omega, by have := HI.out.2.2.1; have := HV.out.2.1; omega, HV.out.1, (fun h => by rw [← HBB.out]; simpa using h)⟩, HS, HB⟩
                    case measure => simp [Go.RowKit.intOf]; have := HLT.out; omega
                  · cases B
                    · skip
                      go_wp2_with fail
                      go_roundw
                      case rel => exact ⟨i + 1, a.now, _, l1, u1, rfl, rfl, by go_num, hide ⟨by have := HLT.out; omega, by have := HLT.out; omega, by have := HI.out.2.2.1; have := HV.out.2.1; omega, HV.out.1, (fun _ => HBB.out.symm)⟩, HS, HB⟩
                      case measure => simp [Go.RowKit.intOf]; have := HLT.out; omega
                    · skip
                      go_wp2_with fail
                      go_roundw
                      case rel => exact ⟨i + 1, a.now, _, l1, u1, rfl, rfl, by go_num, hide ⟨by have := HLT.out; omega, by have := HLT.out; omega, by have := HI.out.2.2.1; have := HV.out.2.1; omega, HV.out.1, (fun h => by simp at h)⟩, HS, HB⟩
                      case measure => simp [Go.RowKit.intOf]; have := HLT.out; omega
                · have f3 : (a.g == gn) = false := by simpa using h3
                  have NG : Hid (¬ (r2 = 0 ∧ a.b = b ∧ a.g = gn)) := hide (fun q => h3 q.2.2)
                  clear h1 h2 h3
                  have HV : Hid (Came a.now l1 ∧ l1.length ≤ l.length + 1 ∧ (qt = true → busyL b gn a.now l1 u1 = false)) := hide ⟨HJ.out.1, HJ.out.2.1, fun h => (HJ.out.2.2 (HI.out.2.2.2.2 h)).resolve_left (fun q => NG.out q)⟩
                  have KB := hide (fun (W : World) (hs : StoS W p bp bu 8 l1 u1) => busyS_any hs (by have := HI.out.2.1; have := HI.out.2.2.1; have := HV.out.2.1; omega) b gn a.now)
                  obtain ⟨B, hB⟩ : ∃ B, B = busyL b gn a.now l1 u1 := ⟨_, rfl⟩
                  rw [← hB] at KB
                  have HBB := hide hB
                  clear hB
                  go_wp2_with fail
                  go_at_call 31
                  with_reducible refine (KB.out _ HS.out).mono ?_
                  rintro e W6 ⟨rfl, b6⟩
                  replace r_x := keepB b6 r_x
                  replace r_y := keepB b6 r_y
                  replace HS := hide (HS.out.below b6)
                  replace HB := hide (HB.out.trans (b6.mono HB.out.size))
                  clear b6
                  dsimp only
                  cases qt
                  · skip
                    go_wp2_with fail
                    go_roundw
                    case rel => exact ⟨i + 1, a.now, _, l1, u1, rfl, rfl, by go_num, hide ⟨by have := HLT.out; omega, by have := HLT.out; omega, by have := HI.out.2.2.1; have := HV.out.2.1; omega, HV.out.1, (fun h => by rw [← HBB.out]; simpa using h)⟩, HS, HB⟩
                    case measure => simp [Go.RowKit.intOf]; have := HLT.out; omega
                  · cases B
                    · skip
                      go_wp2_with fail
                      go_roundw
                      case rel => exact ⟨i + 1, a.now, _, l1, u1, rfl, rfl, by go_num, hide ⟨by have := HLT.out; omega, by have := HLT.out; omega, by have := HI.out.2.2.1; have := HV.out.2.1; omega, HV.out.1, (fun _ => HBB.out.symm)⟩, HS, HB⟩
                      case measure => simp [Go.RowKit.intOf]; have := HLT.out; omega
                    · exact absurd HBB.out (by rw [HV.out.2.2 rfl]; simp)
              · have f2 : (a.b == b) = false := by simpa using h2
                have NG : Hid (¬ (r2 = 0 ∧ a.b = b ∧ a.g = gn)) := hide (fun q => h2 q.2.1)
                clear h1 h2
                have HV : Hid (Came a.now l1 ∧ l1.length ≤ l.length + 1 ∧ (qt = true → busyL b gn a.now l1 u1 = false)) := hide ⟨HJ.out.1, HJ.out.2.1, fun h => (HJ.out.2.2 (HI.out.2.2.2.2 h)).resolve_left (fun q => NG.out q)⟩
                have KB := hide (fun (W : World) (hs : StoS W p bp bu 8 l1 u1) => busyS_any hs (by have := HI.out.2.1; have := HI.out.2.2.1; have := HV.out.2.1; omega) b gn a.now)
                obtain ⟨B, hB⟩ : ∃ B, B = busyL b gn a.now l1 u1 := ⟨_, rfl⟩
                rw [← hB] at KB
                have HBB := hide hB
                clear hB
                go_wp2_with fail
                go_at_call 31
                with_reducible refine (KB.out _ HS.out).mono ?_
                rintro e W6 ⟨rfl, b6⟩
                replace r_x := keepB b6 r_x
                replace r_y := keepB b6 r_y
                replace HS := hide (HS.out.below b6)
                replace HB := hide (HB.out.trans (b6.mono HB.out.size))
                clear b6
                dsimp only
                cases qt
                · skip
                  go_wp2_with fail
                  go_roundw
                  case rel => exact ⟨i + 1, a.now, _, l1, u1, rfl, rfl, by go_num, hide ⟨by have := HLT.out; omega, by have := HLT.out; omega, by have := HI.out.2.2.1; have := HV.out.2.1; omega, HV.out.1, (fun h => by rw [← HBB.out]; simpa using h)⟩, HS, HB⟩
                  case measure => simp [Go.RowKit.intOf]; have := HLT.out; omega
                · cases B
                  · skip
                    go_wp2_with fail
                    go_roundw
                    case rel => exact ⟨i + 1, a.now, _, l1, u1, rfl, rfl, by go_num, hide ⟨by have := HLT.out; omega, by have := HLT.out; omega, by have := HI.out.2.2.1; have := HV.out.2.1; omega, HV.out.1, (fun _ => HBB.out.symm)⟩, HS, HB⟩
                    case measure => simp [Go.RowKit.intOf]; have := HLT.out; omega
                  · exact absurd HBB.out (by rw [HV.out.2.2 rfl]; simp)
            · have f1 : (r2 == 0) = false := by simpa using h1
              have NG : Hid (¬ (r2 = 0 ∧ a.b = b ∧ a.g = gn)) := hide (fun q => h1 q.1)
              clear h1
              have HV : Hid (Came a.now l1 ∧ l1.length ≤ l.length + 1 ∧ (qt = true → busyL b gn a.now l1 u1 = false)) := hide ⟨HJ.out.1, HJ.out.2.1, fun h => (HJ.out.2.2 (HI.out.2.2.2.2 h)).resolve_left (fun q => NG.out q)⟩
              have KB := hide (fun (W : World) (hs : StoS W p bp bu 8 l1 u1) => busyS_any hs (by have := HI.out.2.1; have := HI.out.2.2.1; have := HV.out.2.1; omega) b gn a.now)
              obtain ⟨B, hB⟩ : ∃ B, B = busyL b gn a.now l1 u1 := ⟨_, rfl⟩
              rw [← hB] at KB
              have HBB := hide hB
              clear hB
              go_wp2_with fail
              go_at_call 31
              with_reducible refine (KB.out _ HS.out).mono ?_
              rintro e W6 ⟨rfl, b6⟩
              replace r_x := keepB b6 r_x
              replace r_y := keepB b6 r_y
              replace HS := hide (HS.out.below b6)
              replace HB := hide (HB.out.trans (b6.mono HB.out.size))
              clear b6
              dsimp only
              cases qt
              · skip
                go_wp2_with fail
                go_roundw
                case rel => exact ⟨i + 1, a.now, _, l1, u1, rfl, rfl, by go_num, hide ⟨by have := HLT.out; omega, by have := HLT.out; omega, by have := HI.out.2.2.1; have := HV.out.2.1; omega, HV.out.1, (fun h => by rw [← HBB.out]; simpa using h)⟩, HS, HB⟩
                case measure => simp [Go.RowKit.intOf]; have := HLT.out; omega
              · cases B
                · skip
                  go_wp2_with fail
                  go_roundw
                  case rel => exact ⟨i + 1, a.now, _, l1, u1, rfl, rfl, by go_num, hide ⟨by have := HLT.out; omega, by have := HLT.out; omega, by have := HI.out.2.2.1; have := HV.out.2.1; omega, HV.out.1, (fun _ => HBB.out.symm)⟩, HS, HB⟩
                  case measure => simp [Go.RowKit.intOf]; have := HLT.out; omega
                · exact absurd HBB.out (by rw [HV.out.2.2 rfl]; simp)
        · have dm : decide (a.now ≤ 1099511627776) = false := by simpa using hm
          have HN1 : Hid (now ≤ now) := hide (by omega)
          clear hg hm
          by_cases hk : a.kind < 2
          · have dk : decide (a.kind < 2) = true := by simpa using hk
            clear hk
            have hinv := packet_inv (b := b) (g := gn) (u := u) (t := a.t) (fl := a.fl) (z := a.z) HI.out.2.2.2.1 HN1.out
            have KP := hide (fun (W : World) (hs : StoS W p bp bu 8 l u) => packetS_any hs a.t a.fl now a.z)
            obtain ⟨R, hR⟩ : ∃ R, R = packetS l u a.t a.fl now a.z := ⟨_, rfl⟩
            rw [← hR] at hinv KP
            clear hR
            obtain ⟨⟨r1, r2⟩, l1, u1⟩ := R
            dsimp only at hinv
            have HV : Hid (Came now l1 ∧ l1.length ≤ l.length + 1 ∧ (qt = true → busyL b gn now l1 u1 = false)) := hide ⟨hinv.1, hinv.2.1, fun h => hinv.2.2 (HI.out.2.2.2.2 h)⟩
            clear hinv
            unfold pinEV encT at KP
            dsimp only at KP
            go_wp2_with fail
            go_at_call 30
            with_reducible refine (KP.out _ HS.out).mono ?_
            rintro e W4 ⟨rfl, hS4, hT4⟩
            replace r_x := keepT hT4 (by have := N_x.out; omega) (by have := N_x.out; omega) r_x
            replace HB := hide (Tou.bel HB.out HB.out.size hT4 hbp.out hbu.out)
            replace HS := hide hS4
            clear hS4 hT4
            dsimp only
            clear d0 d38 d39 d40 d41 d42 e0 e38 e39 e40 e41 e42
            have KB := hide (fun (W : World) (hs : StoS W p bp bu 8 l1 u1) => busyS_any hs (by have := HI.out.2.1; have := HI.out.2.2.1; have := HV.out.2.1; omega) b gn now)
            obtain ⟨B, hB⟩ : ∃ B, B = busyL b gn now l1 u1 := ⟨_, rfl⟩
            rw [← hB] at KB
            have HBB := hide hB
            clear hB
            go_wp2_with fail
            go_at_call 31
            with_reducible refine (KB.out _ HS.out).mono ?_
            rintro e W5 ⟨rfl, b5⟩
            replace r_x := keepB b5 r_x
            replace HS := hide (HS.out.below b5)
            replace HB := hide (HB.out.trans (b5.mono HB.out.size))
            clear b5
            dsimp only
            cases qt
            · skip
              go_wp2_with fail
              go_roundw
              case rel => exact ⟨i + 1, now, _, l1, u1, rfl, rfl, by go_num, hide ⟨by have := HLT.out; omega, by have := HLT.out; omega, by have := HI.out.2.2.1; have := HV.out.2.1; omega, HV.out.1, (fun h => by rw [← HBB.out]; simpa using h)⟩, HS, HB⟩
              case measure => simp [Go.RowKit.intOf]; have := HLT.out; omega
            · cases B
              · skip
                go_wp2_with fail
                go_roundw
                case rel => exact ⟨i + 1, now, _, l1, u1, rfl, rfl, by go_num, hide ⟨by have := HLT.out; omega, by have := HLT.out; omega, by have := HI.out.2.2.1; have := HV.out.2.1; omega, HV.out.1, (fun _ => HBB.out.symm)⟩, HS, HB⟩
                case measure => simp [Go.RowKit.intOf]; have := HLT.out; omega
              · exact absurd HBB.out (by rw [HV.out.2.2 rfl]; simp)
          · have dk : decide (a.kind < 2) = false := by simpa using hk
            clear hk
            have hinv := begin_inv (most := 8) (b := b) (g := gn) (u := u) (t := a.t) (fl := a.fl) (z := a.z) (bk := a.b) (gn := a.g) HI.out.2.2.2.1 HN1.out
            have KP := hide (fun (W : World) (hs : StoS W p bp bu 8 l u) => beginS_any hs (by have := HI.out.2.1; have := HI.out.2.2.1; omega) a.t a.fl now a.z a.b a.g)
            obtain ⟨R, hR⟩ : ∃ R, R = beginS 8 l u a.t a.fl now a.z a.b a.g := ⟨_, rfl⟩
            rw [← hR] at hinv KP
            clear hR
            obtain ⟨⟨r1, r2⟩, l1, u1⟩ := R
            dsimp only at hinv
            have HJ := hide hinv
            clear hinv
            unfold pinEV encT at KP
            dsimp only at KP
            have s2 := pin_size r1
            have o2 := pin_one r1
            go_wp2_with fail
            go_at_call 29
            with_reducible refine (KP.out _ HS.out).mono ?_
            rintro e W4 ⟨rfl, hS4, hT4⟩
            replace r_x := keepT hT4 (by have := N_x.out; omega) (by have := N_x.out; omega) r_x
            replace HB := hide (Tou.bel HB.out HB.out.size hT4 hbp.out hbu.out)
            replace HS := hide hS4
            clear hS4 hT4
            dsimp only
            clear d0 d38 d39 d40 d41 d42 e0 e38 e39 e40 e41 e42
            have N_y := hide HS.out.lt
            obtain ⟨W5, hW5, r_y, z5, b5⟩ := alloc_nm W4 (.cells (pinA r1) 66)
            clear z5
            replace r_x := keepB b5 r_x
            replace HS := hide (HS.out.below b5)
            replace HB := hide (HB.out.trans (b5.mono HB.out.size))
            clear b5
            have d0 : W5.cell? ⟨wr.heap.size, 0, none⟩ = some (.int .i64 a.kind) := (cell_of_row W5 _ 0 _ _ (0, 0) r_x).trans (act_c0 a)
            have e0 : W5.drew.cell? ⟨wr.heap.size, 0, none⟩ = some (.int .i64 a.kind) := (cell_of_row W5 _ 0 _ _ (0, 0) r_x).trans (act_c0 a)
            have d38 : W5.cell? ⟨wr.heap.size, 38, none⟩ = some (.int .i64 a.fl) := (cell_of_row W5 _ 38 _ _ (0, 0) r_x).trans (act_tail a 0 _ rfl)
            have e38 : W5.drew.cell? ⟨wr.heap.size, 38, none⟩ = some (.int .i64 a.fl) := (cell_of_row W5 _ 38 _ _ (0, 0) r_x).trans (act_tail a 0 _ rfl)
            have d39 : W5.cell? ⟨wr.heap.size, 39, none⟩ = some (.int .i64 a.now) := (cell_of_row W5 _ 39 _ _ (0, 0) r_x).trans (act_tail a 1 _ rfl)
            have e39 : W5.drew.cell? ⟨wr.heap.size, 39, none⟩ = some (.int .i64 a.now) := (cell_of_row W5 _ 39 _ _ (0, 0) r_x).trans (act_tail a 1 _ rfl)
            have d40 : W5.cell? ⟨wr.heap.size, 40, none⟩ = some (.int .i64 a.z) := (cell_of_row W5 _ 40 _ _ (0, 0) r_x).trans (act_tail a 2 _ rfl)
            have e40 : W5.drew.cell? ⟨wr.heap.size, 40, none⟩ = some (.int .i64 a.z) := (cell_of_row W5 _ 40 _ _ (0, 0) r_x).trans (act_tail a 2 _ rfl)
            have d41 : W5.cell? ⟨wr.heap.size, 41, none⟩ = some (.int .i64 a.b) := (cell_of_row W5 _ 41 _ _ (0, 0) r_x).trans (act_tail a 3 _ rfl)
            have e41 : W5.drew.cell? ⟨wr.heap.size, 41, none⟩ = some (.int .i64 a.b) := (cell_of_row W5 _ 41 _ _ (0, 0) r_x).trans (act_tail a 3 _ rfl)
            have d42 : W5.cell? ⟨wr.heap.size, 42, none⟩ = some (.int .i64 a.g) := (cell_of_row W5 _ 42 _ _ (0, 0) r_x).trans (act_tail a 4 _ rfl)
            have e42 : W5.drew.cell? ⟨wr.heap.size, 42, none⟩ = some (.int .i64 a.g) := (cell_of_row W5 _ 42 _ _ (0, 0) r_x).trans (act_tail a 4 _ rfl)
            by_cases h1 : r2 = 0
            · have f1 : (r2 == 0) = true := by simpa using h1
              by_cases h2 : a.b = b
              · have f2 : (a.b == b) = true := by simpa using h2
                by_cases h3 : a.g = gn
                · have f3 : (a.g == gn) = true := by simpa using h3
                  clear h1 h2 h3
                  have HV : Hid (Came now l1 ∧ l1.length ≤ l.length + 1 ∧ True) := hide ⟨HJ.out.1, HJ.out.2.1, trivial⟩
                  have KB := hide (fun (W : World) (hs : StoS W p bp bu 8 l1 u1) => busyS_any hs (by have := HI.out.2.1; have := HI.out.2.2.1; have := HV.out.2.1; omega) b gn now)
                  obtain ⟨B, hB⟩ : ∃ B, B = busyL b gn now l1 u1 := ⟨_, rfl⟩
                  rw [← hB] at KB
                  have HBB := hide hB
                  clear hB
                  go_wp2_with fail
                  go_at_call 31
                  with_reducible refine (KB.out _ HS.out).mono ?_
                  rintro e W6 ⟨rfl, b6⟩
                  replace r_x := keepB b6 r_x
                  replace r_y := keepB b6 r_y
                  replace HS := hide (HS.out.below b6)
                  replace HB := hide (HB.out.trans (b6.mono HB.out.size))
                  clear b6
                  dsimp only
                  cases qt
                  · skip
                    go_wp2_with fail
                    go_roundw
                    case rel => exact ⟨i + 1, now, _, l1, u1, rfl, rfl, by go_num, hide ⟨by have := HLT.out; omega, by have := HLT.out; omega, by have := HI.out.2.2.1; have := HV.out.2.1; omega, HV.out.1, (fun h => by rw [← HBB.out]; simpa using h)⟩, HS, HB⟩
                    case measure => simp [Go.RowKit.intOf]; have := HLT.out; omega
                  · cases B
                    · skip
                      go_wp2_with fail
                      go_roundw
                      case rel => exact ⟨i + 1, now, _, l1, u1, rfl, rfl, by go_num, hide ⟨by have := HLT.out; omega, by have := HLT.out; omega, by have := HI.out.2.2.1; have := HV.out.2.1; omega, HV.out.1, (fun _ => HBB.out.symm)⟩, HS, HB⟩
                      case measure => simp [Go.RowKit.intOf]; have := HLT.out; omega
                    · skip
                      go_wp2_with fail
                      go_roundw
                      case rel => exact ⟨i + 1, now, _, l1, u1, rfl, rfl, by go_num, hide ⟨by have := HLT.out; omega, by have := HLT.out; omega, by have := HI.out.2.2.1; have := HV.out.2.1; omega, HV.out.1, (fun h => by simp at h)⟩, HS, HB⟩
                      case measure => simp [Go.RowKit.intOf]; have := HLT.out; omega
                · have f3 : (a.g == gn) = false := by simpa using h3
                  have NG : Hid (¬ (r2 = 0 ∧ a.b = b ∧ a.g = gn)) := hide (fun q => h3 q.2.2)
                  clear h1 h2 h3
                  have HV : Hid (Came now l1 ∧ l1.length ≤ l.length + 1 ∧ (qt = true → busyL b gn now l1 u1 = false)) := hide ⟨HJ.out.1, HJ.out.2.1, fun h => (HJ.out.2.2 (HI.out.2.2.2.2 h)).resolve_left (fun q => NG.out q)⟩
                  have KB := hide (fun (W : World) (hs : StoS W p bp bu 8 l1 u1) => busyS_any hs (by have := HI.out.2.1; have := HI.out.2.2.1; have := HV.out.2.1; omega) b gn now)
                  obtain ⟨B, hB⟩ : ∃ B, B = busyL b gn now l1 u1 := ⟨_, rfl⟩
                  rw [← hB] at KB
                  have HBB := hide hB
                  clear hB
                  go_wp2_with fail
                  go_at_call 31
                  with_reducible refine (KB.out _ HS.out).mono ?_
                  rintro e W6 ⟨rfl, b6⟩
                  replace r_x := keepB b6 r_x
                  replace r_y := keepB b6 r_y
                  replace HS := hide (HS.out.below b6)
                  replace HB := hide (HB.out.trans (b6.mono HB.out.size))
                  clear b6
                  dsimp only
                  cases qt
                  · skip
                    go_wp2_with fail
                    go_roundw
                    case rel => exact ⟨i + 1, now, _, l1, u1, rfl, rfl, by go_num, hide ⟨by have := HLT.out; omega, by have := HLT.out; omega, by have := HI.out.2.2.1; have := HV.out.2.1; omega, HV.out.1, (fun h => by rw [← HBB.out]; simpa using h)⟩, HS, HB⟩
                    case measure => simp [Go.RowKit.intOf]; have := HLT.out; omega
                  · cases B
                    · skip
                      go_wp2_with fail
                      go_roundw
                      case rel => exact ⟨i + 1, now, _, l1, u1, rfl, rfl, by go_num, hide ⟨by have := HLT.out; omega, by have := HLT.out; omega, by have := HI.out.2.2.1; have := HV.out.2.1; omega, HV.out.1, (fun _ => HBB.out.symm)⟩, HS, HB⟩
                      case measure => simp [Go.RowKit.intOf]; have := HLT.out; omega
                    · exact absurd HBB.out (by rw [HV.out.2.2 rfl]; simp)
              · have f2 : (a.b == b) = false := by simpa using h2
                have NG : Hid (¬ (r2 = 0 ∧ a.b = b ∧ a.g = gn)) := hide (fun q => h2 q.2.1)
                clear h1 h2
                have HV : Hid (Came now l1 ∧ l1.length ≤ l.length + 1 ∧ (qt = true → busyL b gn now l1 u1 = false)) := hide ⟨HJ.out.1, HJ.out.2.1, fun h => (HJ.out.2.2 (HI.out.2.2.2.2 h)).resolve_left (fun q => NG.out q)⟩
                have KB := hide (fun (W : World) (hs : StoS W p bp bu 8 l1 u1) => busyS_any hs (by have := HI.out.2.1; have := HI.out.2.2.1; have := HV.out.2.1; omega) b gn now)
                obtain ⟨B, hB⟩ : ∃ B, B = busyL b gn now l1 u1 := ⟨_, rfl⟩
                rw [← hB] at KB
                have HBB := hide hB
                clear hB
                go_wp2_with fail
                go_at_call 31
                with_reducible refine (KB.out _ HS.out).mono ?_
                rintro e W6 ⟨rfl, b6⟩
                replace r_x := keepB b6 r_x
                replace r_y := keepB b6 r_y
                replace HS := hide (HS.out.below b6)
                replace HB := hide (HB.out.trans (b6.mono HB.out.size))
                clear b6
                dsimp only
                cases qt
                · skip
                  go_wp2_with fail
                  go_roundw
                  case rel => exact ⟨i + 1, now, _, l1, u1, rfl, rfl, by go_num, hide ⟨by have := HLT.out; omega, by have := HLT.out; omega, by have := HI.out.2.2.1; have := HV.out.2.1; omega, HV.out.1, (fun h => by rw [← HBB.out]; simpa using h)⟩, HS, HB⟩
                  case measure => simp [Go.RowKit.intOf]; have := HLT.out; omega
                · cases B
                  · skip
                    go_wp2_with fail
                    go_roundw
                    case rel => exact ⟨i + 1, now, _, l1, u1, rfl, rfl, by go_num, hide ⟨by have := HLT.out; omega, by have := HLT.out; omega, by have := HI.out.2.2.1; have := HV.out.2.1; omega, HV.out.1, (fun _ => HBB.out.symm)⟩, HS, HB⟩
                    case measure => simp [Go.RowKit.intOf]; have := HLT.out; omega
                  · exact absurd HBB.out (by rw [HV.out.2.2 rfl]; simp)
            · have f1 : (r2 == 0) = false := by simpa using h1
              have NG : Hid (¬ (r2 = 0 ∧ a.b = b ∧ a.g = gn)) := hide (fun q => h1 q.1)
              clear h1
              have HV : Hid (Came now l1 ∧ l1.length ≤ l.length + 1 ∧ (qt = true → busyL b gn now l1 u1 = false)) := hide ⟨HJ.out.1, HJ.out.2.1, fun h => (HJ.out.2.2 (HI.out.2.2.2.2 h)).resolve_left (fun q => NG.out q)⟩
              have KB := hide (fun (W : World) (hs : StoS W p bp bu 8 l1 u1) => busyS_any hs (by have := HI.out.2.1; have := HI.out.2.2.1; have := HV.out.2.1; omega) b gn now)
              obtain ⟨B, hB⟩ : ∃ B, B = busyL b gn now l1 u1 := ⟨_, rfl⟩
              rw [← hB] at KB
              have HBB := hide hB
              clear hB
              go_wp2_with fail
              go_at_call 31
              with_reducible refine (KB.out _ HS.out).mono ?_
              rintro e W6 ⟨rfl, b6⟩
              replace r_x := keepB b6 r_x
              replace r_y := keepB b6 r_y
              replace HS := hide (HS.out.below b6)
              replace HB := hide (HB.out.trans (b6.mono HB.out.size))
              clear b6
              dsimp only
              cases qt
              · skip
                go_wp2_with fail
                go_roundw
                case rel => exact ⟨i + 1, now, _, l1, u1, rfl, rfl, by go_num, hide ⟨by have := HLT.out; omega, by have := HLT.out; omega, by have := HI.out.2.2.1; have := HV.out.2.1; omega, HV.out.1, (fun h => by rw [← HBB.out]; simpa using h)⟩, HS, HB⟩
                case measure => simp [Go.RowKit.intOf]; have := HLT.out; omega
              · cases B
                · skip
                  go_wp2_with fail
                  go_roundw
                  case rel => exact ⟨i + 1, now, _, l1, u1, rfl, rfl, by go_num, hide ⟨by have := HLT.out; omega, by have := HLT.out; omega, by have := HI.out.2.2.1; have := HV.out.2.1; omega, HV.out.1, (fun _ => HBB.out.symm)⟩, HS, HB⟩
                  case measure => simp [Go.RowKit.intOf]; have := HLT.out; omega
                · exact absurd HBB.out (by rw [HV.out.2.2 rfl]; simp)
      · have dg : decide (a.now > now) = false := by simpa using hg
        have dg2 : decide (now < a.now) = false := by simpa using hg
        have HN1 : Hid (now ≤ now) := hide (by omega)
        clear hg
        by_cases hk : a.kind < 2
        · have dk : decide (a.kind < 2) = true := by simpa using hk
          clear hk
          have hinv := packet_inv (b := b) (g := gn) (u := u) (t := a.t) (fl := a.fl) (z := a.z) HI.out.2.2.2.1 HN1.out
          have KP := hide (fun (W : World) (hs : StoS W p bp bu 8 l u) => packetS_any hs a.t a.fl now a.z)
          obtain ⟨R, hR⟩ : ∃ R, R = packetS l u a.t a.fl now a.z := ⟨_, rfl⟩
          rw [← hR] at hinv KP
          clear hR
          obtain ⟨⟨r1, r2⟩, l1, u1⟩ := R
          dsimp only at hinv
          have HV : Hid (Came now l1 ∧ l1.length ≤ l.length + 1 ∧ (qt = true → busyL b gn now l1 u1 = false)) := hide ⟨hinv.1, hinv.2.1, fun h => hinv.2.2 (HI.out.2.2.2.2 h)⟩
          clear hinv
          unfold pinEV encT at KP
          dsimp only at KP
          go_wp2_with fail
          go_at_call 30
          with_reducible refine (KP.out _ HS.out).mono ?_
          rintro e W4 ⟨rfl, hS4, hT4⟩
          replace r_x := keepT hT4 (by have := N_x.out; omega) (by have := N_x.out; omega) r_x
          replace HB := hide (Tou.bel HB.out HB.out.size hT4 hbp.out hbu.out)
          replace HS := hide hS4
          clear hS4 hT4
          dsimp only
          clear d0 d38 d39 d40 d41 d42 e0 e38 e39 e40 e41 e42
          have KB := hide (fun (W : World) (hs : StoS W p bp bu 8 l1 u1) => busyS_any hs (by have := HI.out.2.1; have := HI.out.2.2.1; have := HV.out.2.1; omega) b gn now)
          obtain ⟨B, hB⟩ : ∃ B, B = busyL b gn now l1 u1 := ⟨_, rfl⟩
          rw [← hB] at KB
          have HBB := hide hB
          clear hB
          go_wp2_with fail
          go_at_call 31
          with_reducible refine (KB.out _ HS.out).mono ?_
          rintro e W5 ⟨rfl, b5⟩
          replace r_x := keepB b5 r_x
          replace HS := hide (HS.out.below b5)
          replace HB := hide (HB.out.trans (b5.mono HB.out.size))
          clear b5
          dsimp only
          cases qt
          · skip
            go_wp2_with fail
            go_roundw
            case rel => exact ⟨i + 1, now, _, l1, u1, rfl, rfl, by go_num, hide ⟨by have := HLT.out; omega, by have := HLT.out; omega, by have := HI.out.2.2.1; have := HV.out.2.1; omega, HV.out.1, (fun h => by rw [← HBB.out]; simpa using h)⟩, HS, HB⟩
            case measure => simp [Go.RowKit.intOf]; have := HLT.out; omega
          · cases B
            · skip
              go_wp2_with fail
              go_roundw
              case rel => exact ⟨i + 1, now, _, l1, u1, rfl, rfl, by go_num, hide ⟨by have := HLT.out; omega, by have := HLT.out; omega, by have := HI.out.2.2.1; have := HV.out.2.1; omega, HV.out.1, (fun _ => HBB.out.symm)⟩, HS, HB⟩
              case measure => simp [Go.RowKit.intOf]; have := HLT.out; omega
            · exact absurd HBB.out (by rw [HV.out.2.2 rfl]; simp)
        · have dk : decide (a.kind < 2) = false := by simpa using hk
          clear hk
          have hinv := begin_inv (most := 8) (b := b) (g := gn) (u := u) (t := a.t) (fl := a.fl) (z := a.z) (bk := a.b) (gn := a.g) HI.out.2.2.2.1 HN1.out
          have KP := hide (fun (W : World) (hs : StoS W p bp bu 8 l u) => beginS_any hs (by have := HI.out.2.1; have := HI.out.2.2.1; omega) a.t a.fl now a.z a.b a.g)
          obtain ⟨R, hR⟩ : ∃ R, R = beginS 8 l u a.t a.fl now a.z a.b a.g := ⟨_, rfl⟩
          rw [← hR] at hinv KP
          clear hR
          obtain ⟨⟨r1, r2⟩, l1, u1⟩ := R
          dsimp only at hinv
          have HJ := hide hinv
          clear hinv
          unfold pinEV encT at KP
          dsimp only at KP
          have s2 := pin_size r1
          have o2 := pin_one r1
          go_wp2_with fail
          go_at_call 29
          with_reducible refine (KP.out _ HS.out).mono ?_
          rintro e W4 ⟨rfl, hS4, hT4⟩
          replace r_x := keepT hT4 (by have := N_x.out; omega) (by have := N_x.out; omega) r_x
          replace HB := hide (Tou.bel HB.out HB.out.size hT4 hbp.out hbu.out)
          replace HS := hide hS4
          clear hS4 hT4
          dsimp only
          clear d0 d38 d39 d40 d41 d42 e0 e38 e39 e40 e41 e42
          have N_y := hide HS.out.lt
          obtain ⟨W5, hW5, r_y, z5, b5⟩ := alloc_nm W4 (.cells (pinA r1) 66)
          clear z5
          replace r_x := keepB b5 r_x
          replace HS := hide (HS.out.below b5)
          replace HB := hide (HB.out.trans (b5.mono HB.out.size))
          clear b5
          have d0 : W5.cell? ⟨wr.heap.size, 0, none⟩ = some (.int .i64 a.kind) := (cell_of_row W5 _ 0 _ _ (0, 0) r_x).trans (act_c0 a)
          have e0 : W5.drew.cell? ⟨wr.heap.size, 0, none⟩ = some (.int .i64 a.kind) := (cell_of_row W5 _ 0 _ _ (0, 0) r_x).trans (act_c0 a)
          have d38 : W5.cell? ⟨wr.heap.size, 38, none⟩ = some (.int .i64 a.fl) := (cell_of_row W5 _ 38 _ _ (0, 0) r_x).trans (act_tail a 0 _ rfl)
          have e38 : W5.drew.cell? ⟨wr.heap.size, 38, none⟩ = some (.int .i64 a.fl) := (cell_of_row W5 _ 38 _ _ (0, 0) r_x).trans (act_tail a 0 _ rfl)
          have d39 : W5.cell? ⟨wr.heap.size, 39, none⟩ = some (.int .i64 a.now) := (cell_of_row W5 _ 39 _ _ (0, 0) r_x).trans (act_tail a 1 _ rfl)
          have e39 : W5.drew.cell? ⟨wr.heap.size, 39, none⟩ = some (.int .i64 a.now) := (cell_of_row W5 _ 39 _ _ (0, 0) r_x).trans (act_tail a 1 _ rfl)
          have d40 : W5.cell? ⟨wr.heap.size, 40, none⟩ = some (.int .i64 a.z) := (cell_of_row W5 _ 40 _ _ (0, 0) r_x).trans (act_tail a 2 _ rfl)
          have e40 : W5.drew.cell? ⟨wr.heap.size, 40, none⟩ = some (.int .i64 a.z) := (cell_of_row W5 _ 40 _ _ (0, 0) r_x).trans (act_tail a 2 _ rfl)
          have d41 : W5.cell? ⟨wr.heap.size, 41, none⟩ = some (.int .i64 a.b) := (cell_of_row W5 _ 41 _ _ (0, 0) r_x).trans (act_tail a 3 _ rfl)
          have e41 : W5.drew.cell? ⟨wr.heap.size, 41, none⟩ = some (.int .i64 a.b) := (cell_of_row W5 _ 41 _ _ (0, 0) r_x).trans (act_tail a 3 _ rfl)
          have d42 : W5.cell? ⟨wr.heap.size, 42, none⟩ = some (.int .i64 a.g) := (cell_of_row W5 _ 42 _ _ (0, 0) r_x).trans (act_tail a 4 _ rfl)
          have e42 : W5.drew.cell? ⟨wr.heap.size, 42, none⟩ = some (.int .i64 a.g) := (cell_of_row W5 _ 42 _ _ (0, 0) r_x).trans (act_tail a 4 _ rfl)
          by_cases h1 : r2 = 0
          · have f1 : (r2 == 0) = true := by simpa using h1
            by_cases h2 : a.b = b
            · have f2 : (a.b == b) = true := by simpa using h2
              by_cases h3 : a.g = gn
              · have f3 : (a.g == gn) = true := by simpa using h3
                clear h1 h2 h3
                have HV : Hid (Came now l1 ∧ l1.length ≤ l.length + 1 ∧ True) := hide ⟨HJ.out.1, HJ.out.2.1, trivial⟩
                have KB := hide (fun (W : World) (hs : StoS W p bp bu 8 l1 u1) => busyS_any hs (by have := HI.out.2.1; have := HI.out.2.2.1; have := HV.out.2.1; omega) b gn now)
                obtain ⟨B, hB⟩ : ∃ B, B = busyL b gn now l1 u1 := ⟨_, rfl⟩
                rw [← hB] at KB
                have HBB := hide hB
                clear hB
                go_wp2_with fail
                go_at_call 31
                with_reducible refine (KB.out _ HS.out).mono ?_
                rintro e W6 ⟨rfl, b6⟩
                replace r_x := keepB b6 r_x
                replace r_y := keepB b6 r_y
                replace HS := hide (HS.out.below b6)
                replace HB := hide (HB.out.trans (b6.mono HB.out.size))
                clear b6
                dsimp only
                cases qt
                · skip
                  go_wp2_with fail
                  go_roundw
                  case rel => exact ⟨i + 1, now, _, l1, u1, rfl, rfl, by go_num, hide ⟨by have := HLT.out; omega, by have := HLT.out; omega, by have := HI.out.2.2.1; have := HV.out.2.1; omega, HV.out.1, (fun h => by rw [← HBB.out]; simpa using h)⟩, HS, HB⟩
                  case measure => simp [Go.RowKit.intOf]; have := HLT.out; omega
                · cases B
                  · skip
                    go_wp2_with fail
                    go_roundw
                    case rel => exact ⟨i + 1, now, _, l1, u1, rfl, rfl, by go_num, hide ⟨by have := HLT.out; omega, by have := HLT.out; omega, by have := HI.out.2.2.1; have := HV.out.2.1; omega, HV.out.1, (fun _ => HBB.out.symm)⟩, HS, HB⟩
                    case measure => simp [Go.RowKit.intOf]; have := HLT.out; omega
                  · skip
                    go_wp2_with fail
                    go_roundw
                    case rel => exact ⟨i + 1, now, _, l1, u1, rfl, rfl, by go_num, hide ⟨by have := HLT.out; omega, by have := HLT.out; omega, by have := HI.out.2.2.1; have := HV.out.2.1; omega, HV.out.1, (fun h => by simp at h)⟩, HS, HB⟩
                    case measure => simp [Go.RowKit.intOf]; have := HLT.out; omega
              · have f3 : (a.g == gn) = false := by simpa using h3
                have NG : Hid (¬ (r2 = 0 ∧ a.b = b ∧ a.g = gn)) := hide (fun q => h3 q.2.2)
                clear h1 h2 h3
                have HV : Hid (Came now l1 ∧ l1.length ≤ l.length + 1 ∧ (qt = true → busyL b gn now l1 u1 = false)) := hide ⟨HJ.out.1, HJ.out.2.1, fun h => (HJ.out.2.2 (HI.out.2.2.2.2 h)).resolve_left (fun q => NG.out q)⟩
                have KB := hide (fun (W : World) (hs : StoS W p bp bu 8 l1 u1) => busyS_any hs (by have := HI.out.2.1; have := HI.out.2.2.1; have := HV.out.2.1; omega) b gn now)
                obtain ⟨B, hB⟩ : ∃ B, B = busyL b gn now l1 u1 := ⟨_, rfl⟩
                rw [← hB] at KB
                have HBB := hide hB
                clear hB
                go_wp2_with fail
                go_at_call 31
                with_reducible refine (KB.out _ HS.out).mono ?_
                rintro e W6 ⟨rfl, b6⟩
                replace r_x := keepB b6 r_x
                replace r_y := keepB b6 r_y
                replace HS := hide (HS.out.below b6)
                replace HB := hide (HB.out.trans (b6.mono HB.out.size))
                clear b6
                dsimp only
                cases qt
                · skip
                  go_wp2_with fail
                  go_roundw
                  case rel => exact ⟨i + 1, now, _, l1, u1, rfl, rfl, by go_num, hide ⟨by have := HLT.out; omega, by have := HLT.out; omega, by have := HI.out.2.2.1; have := HV.out.2.1; omega, HV.out.1, (fun h => by rw [← HBB.out]; simpa using h)⟩, HS, HB⟩
                  case measure => simp [Go.RowKit.intOf]; have := HLT.out; omega
                · cases B
                  · skip
                    go_wp2_with fail
                    go_roundw
                    case rel => exact ⟨i + 1, now, _, l1, u1, rfl, rfl, by go_num, hide ⟨by have := HLT.out; omega, by have := HLT.out; omega, by have := HI.out.2.2.1; have := HV.out.2.1; omega, HV.out.1, (fun _ => HBB.out.symm)⟩, HS, HB⟩
                    case measure => simp [Go.RowKit.intOf]; have := HLT.out; omega
                  · exact absurd HBB.out (by rw [HV.out.2.2 rfl]; simp)
            · have f2 : (a.b == b) = false := by simpa using h2
              have NG : Hid (¬ (r2 = 0 ∧ a.b = b ∧ a.g = gn)) := hide (fun q => h2 q.2.1)
              clear h1 h2
              have HV : Hid (Came now l1 ∧ l1.length ≤ l.length + 1 ∧ (qt = true → busyL b gn now l1 u1 = false)) := hide ⟨HJ.out.1, HJ.out.2.1, fun h => (HJ.out.2.2 (HI.out.2.2.2.2 h)).resolve_left (fun q => NG.out q)⟩
              have KB := hide (fun (W : World) (hs : StoS W p bp bu 8 l1 u1) => busyS_any hs (by have := HI.out.2.1; have := HI.out.2.2.1; have := HV.out.2.1; omega) b gn now)
              obtain ⟨B, hB⟩ : ∃ B, B = busyL b gn now l1 u1 := ⟨_, rfl⟩
              rw [← hB] at KB
              have HBB := hide hB
              clear hB
              go_wp2_with fail
              go_at_call 31
              with_reducible refine (KB.out _ HS.out).mono ?_
              rintro e W6 ⟨rfl, b6⟩
              replace r_x := keepB b6 r_x
              replace r_y := keepB b6 r_y
              replace HS := hide (HS.out.below b6)
              replace HB := hide (HB.out.trans (b6.mono HB.out.size))
              clear b6
              dsimp only
              cases qt
              · skip
                go_wp2_with fail
                go_roundw
                case rel => exact ⟨i + 1, now, _, l1, u1, rfl, rfl, by go_num, hide ⟨by have := HLT.out; omega, by have := HLT.out; omega, by have := HI.out.2.2.1; have := HV.out.2.1; omega, HV.out.1, (fun h => by rw [← HBB.out]; simpa using h)⟩, HS, HB⟩
                case measure => simp [Go.RowKit.intOf]; have := HLT.out; omega
              · cases B
                · skip
                  go_wp2_with fail
                  go_roundw
                  case rel => exact ⟨i + 1, now, _, l1, u1, rfl, rfl, by go_num, hide ⟨by have := HLT.out; omega, by have := HLT.out; omega, by have := HI.out.2.2.1; have := HV.out.2.1; omega, HV.out.1, (fun _ => HBB.out.symm)⟩, HS, HB⟩
                  case measure => simp [Go.RowKit.intOf]; have := HLT.out; omega
                · exact absurd HBB.out (by rw [HV.out.2.2 rfl]; simp)
          · have f1 : (r2 == 0) = false := by simpa using h1
            have NG : Hid (¬ (r2 = 0 ∧ a.b = b ∧ a.g = gn)) := hide (fun q => h1 q.1)
            clear h1
            have HV : Hid (Came now l1 ∧ l1.length ≤ l.length + 1 ∧ (qt = true → busyL b gn now l1 u1 = false)) := hide ⟨HJ.out.1, HJ.out.2.1, fun h => (HJ.out.2.2 (HI.out.2.2.2.2 h)).resolve_left (fun q => NG.out q)⟩
            have KB := hide (fun (W : World) (hs : StoS W p bp bu 8 l1 u1) => busyS_any hs (by have := HI.out.2.1; have := HI.out.2.2.1; have := HV.out.2.1; omega) b gn now)
            obtain ⟨B, hB⟩ : ∃ B, B = busyL b gn now l1 u1 := ⟨_, rfl⟩
            rw [← hB] at KB
            have HBB := hide hB
            clear hB
            go_wp2_with fail
            go_at_call 31
            with_reducible refine (KB.out _ HS.out).mono ?_
            rintro e W6 ⟨rfl, b6⟩
            replace r_x := keepB b6 r_x
            replace r_y := keepB b6 r_y
            replace HS := hide (HS.out.below b6)
            replace HB := hide (HB.out.trans (b6.mono HB.out.size))
            clear b6
            dsimp only
            cases qt
            · skip
              go_wp2_with fail
              go_roundw
              case rel => exact ⟨i + 1, now, _, l1, u1, rfl, rfl, by go_num, hide ⟨by have := HLT.out; omega, by have := HLT.out; omega, by have := HI.out.2.2.1; have := HV.out.2.1; omega, HV.out.1, (fun h => by rw [← HBB.out]; simpa using h)⟩, HS, HB⟩
              case measure => simp [Go.RowKit.intOf]; have := HLT.out; omega
            · cases B
              · skip
                go_wp2_with fail
                go_roundw
                case rel => exact ⟨i + 1, now, _, l1, u1, rfl, rfl, by go_num, hide ⟨by have := HLT.out; omega, by have := HLT.out; omega, by have := HI.out.2.2.1; have := HV.out.2.1; omega, HV.out.1, (fun _ => HBB.out.symm)⟩, HS, HB⟩
                case measure => simp [Go.RowKit.intOf]; have := HLT.out; omega
              · exact absurd HBB.out (by rw [HV.out.2.2 rfl]; simp)
    · have hend : (¬ i < n ∧ decide ((i : Int) < (n : Int)) = false) ∨ (i < n ∧ ¬ i < 80 ∧ decide ((i : Int) < (n : Int)) = true ∧ decide ((i : Int) < 80) = false) := by
        by_cases h : i < n
        · exact .inr ⟨h, fun e => hlt ⟨h, e⟩, by simpa using h, by have : ¬ i < 80 := fun e => hlt ⟨h, e⟩; simp; omega⟩
        · exact .inl ⟨h, by simp; omega⟩
      clear hlt
      rcases hend with ⟨hi3, hi1⟩ | ⟨hi3, hi4, hi1, hi2⟩
      all_goals
        go_wp2_with fail
        go_at_call 32
        with_reducible refine (KK.out _).mono ?_
        rintro e W4 ⟨rfl, b4⟩
        replace HS := hide (HS.out.below b4)
        replace HB := hide (HB.out.trans (b4.mono HB.out.size))
        clear b4
        dsimp only
        go_wp2_with fail
        go_ret
        exact ⟨rfl, HB.out⟩
end Go.Proofs.Ytbkipfmnbfjkcaa
