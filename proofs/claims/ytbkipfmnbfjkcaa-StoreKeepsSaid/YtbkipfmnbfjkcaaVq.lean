/-
  A store in the memory; one that is new; the pin of a tuple, if it lives.
-/
import Derived.Test.YtbkipfmnbfjkcaaVp
namespace Go.Proofs.Ytbkipfmnbfjkcaa
open Go.RowKit
set_option maxRecDepth 100000
set_option linter.unusedVariables false
set_option linter.unusedSimpArgs false
attribute [local go_sem ↓] exec_span exec_put exec_build heap_alloc_new heap_old
attribute [local go_sem] spanQ_ptr spanC_some heap_of_drew heap_of_drewN putAt_ptr putOk_ptr oldOk_some World.setRow_alloc_new rs_Flow rs_Pin rs_Com rs_Sto rs_Que rs_tup built_pin0 built_com built_pin pinZ_lit tkZ_lit

def pinE (l : List PinR) : List (TK × Value) := l.map (fun q => (q.t, Value.agg (pinA q)))
def untE (u : List ((Int × Int) × Int)) : List ((Int × Int) × Value) := u.map (fun x => (x.1, Value.int .i64 x.2))
/-- at p stands a store for so many: its pins, and until when backends may be used. -/
structure StoS (w : World) (p bp bu : Nat) (most : Int) (l : List PinR) (u : List ((Int × Int) × Int)) : Prop where
  blk : w.heap[p]? = some (.cells #[.int .i64 most, .map (some bp), .map (some bu)] 95 (0, 0))
  pins : MapG encT w bp (pinE l)
  unt : MapG encC w bu (untE u)
  ne : bp ≠ bu
  nd : (l.map (·.t)).Nodup
theorem MapG.block_map {κ : Type} [DecidableEq κ] {enc : κ → Value} {w : World} {b : Nat} {l : List (κ × Value)} (h : MapG enc w b l) : ∃ es c, w.heap[b]? = some (.map es c) := by
  obtain ⟨es, c, h, _⟩ := h
  exact ⟨es, c, h⟩
theorem StoS.ne_p {w : World} {p bp bu : Nat} {most : Int} {l : List PinR} {u : List ((Int × Int) × Int)} (h : StoS w p bp bu most l u) : p ≠ bp ∧ p ≠ bu := by
  obtain ⟨_, _, h1⟩ := h.pins.block_map
  obtain ⟨_, _, h2⟩ := h.unt.block_map
  refine ⟨fun e => ?_, fun e => ?_⟩
  · subst e; rw [h.blk] at h1; cases h1
  · subst e; rw [h.blk] at h2; cases h2
theorem StoS.lt {w : World} {p bp bu : Nat} {most : Int} {l : List PinR} {u : List ((Int × Int) × Int)} (h : StoS w p bp bu most l u) : p < w.heap.size ∧ bp < w.heap.size ∧ bu < w.heap.size :=
  ⟨(Array.getElem?_eq_some_iff.1 h.blk).1, h.pins.lt, h.unt.lt⟩
theorem StoS.below {w w' : World} {p bp bu : Nat} {most : Int} {l : List PinR} {u : List ((Int × Int) × Int)} (h : StoS w p bp bu most l u) (hb : Below w.heap.size w w') : StoS w' p bp bu most l u :=
  ⟨keepB hb h.blk, h.pins.below hb, h.unt.below hb, h.ne, h.nd⟩
/-- what a call on a store leaves: all else is as it was. -/
structure Tou (w w' : World) (bp bu : Nat) : Prop where
  os : w'.os = w.os
  tape : w'.tape = w.tape
  output : w'.output = w.output
  size : w.heap.size ≤ w'.heap.size
  block : ∀ k, k < w.heap.size → k ≠ bp → k ≠ bu → w'.heap[k]? = w.heap[k]?
theorem Tou.of_below {w w' : World} {bp bu : Nat} (h : Below w.heap.size w w') : Tou w w' bp bu := ⟨h.os, h.tape, h.output, h.size, fun k hk _ _ => h.block k hk⟩
theorem Tou.trans {w w1 w2 : World} {bp bu : Nat} (h : Tou w w1 bp bu) (h' : Tou w1 w2 bp bu) : Tou w w2 bp bu :=
  ⟨h'.os.trans h.os, h'.tape.trans h.tape, h'.output.trans h.output, Nat.le_trans h.size h'.size, fun k hk h1 h2 => (h'.block k (Nat.lt_of_lt_of_le hk h.size) h1 h2).trans (h.block k hk h1 h2)⟩
theorem Tou.bel {w0 w w' : World} {B bp bu : Nat} (h0 : Below B w0 w) (hB : B ≤ w.heap.size) (h : Tou w w' bp bu) (h1 : B ≤ bp) (h2 : B ≤ bu) : Below B w0 w' :=
  h0.trans ⟨h.os, h.tape, h.output, h.size, fun k hk => h.block k (by omega) (by omega) (by omega)⟩
theorem Tou.putP {w : World} {bp bu : Nat} (o : Obj) : Tou w (w.putObj bp o) bp bu := ⟨rfl, rfl, rfl, by simp, fun k hk h1 _ => World.putObj_heap_other h1⟩
theorem Tou.putU {w : World} {bp bu : Nat} (o : Obj) : Tou w (w.putObj bu o) bp bu := ⟨rfl, rfl, rfl, by simp, fun k hk _ h2 => World.putObj_heap_other h2⟩

/-! what is known of pins -/
def lookP (t : TK) (l : List PinR) : Option PinR := l.find? (fun q => decide (t = q.t))
theorem look_pin (t : TK) (l : List PinR) : lookGm (pinE l) t = (lookP t l).map (fun q => Value.agg (pinA q)) := by
  rw [lookGm_find]
  unfold pinE lookP
  rw [List.find?_map, Option.map_map]
  rfl
def liveP (now : Int) (q : PinR) : Bool := liveB q.f now
def getP (t : TK) (now : Int) (l : List PinR) : Option PinR := (lookP t l).filter (liveP now)
def pinO : Option PinR → PinR
  | some q => q
  | none => pinZ
/-- a pin, and whether it is there. -/
def gotV (r : Option PinR) : Value := .tuple #[.agg (pinA (pinO r)), .bool r.isSome]
theorem below_drewP {B : Nat} {w w' : World} (h : Below B w w') : Below B w w'.drew := ⟨h.os, h.tape, h.output, h.size, h.block⟩
theorem live_zero (now : Int) : liveB fl0 now = false := live_none (.inl rfl) now
set_option maxHeartbeats 8000000 in
theorem living_any {w : World} {p bp bu : Nat} {most : Int} {l : List PinR} {u : List ((Int × Int) × Int)} (h : StoS w p bp bu most l u) (t : TK) (now : Int) :
    Calls Try.prog 52 #[.pointer (some ⟨p, 0, none⟩), encT t, .int .i64 now] w (RetV w (gotV (getP t now l))) := by
  have HL : Hid (∀ W, Below w.heap.size w W → (Instr.lookup 92 (.map (some bp)) (.agg (tupA t)) true).run Try.prog W = .ok (.tuple #[.agg (pinA (pinO (lookP t l))), .bool (lookP t l).isSome]) W) := hide fun W hb => by
    have := (h.pins.below hb).look (P := Try.prog) keyT Try.underlying92 (zero_pin W) t true
    rw [look_pin] at this
    refine this.trans ?_
    cases lookP t l <;> rfl
  have HP : Hid (∀ W, Below w.heap.size w W → W.heap[p]? = some (.cells #[.int .i64 most, .map (some bp), .map (some bu)] 95 (0, 0))) := hide fun W hb => keepB hb h.blk
  have HG : Hid (getP t now l = (lookP t l).filter (fun q => liveB q.f now)) := hide rfl
  obtain ⟨G, hG⟩ : ∃ G, G = getP t now l := ⟨_, rfl⟩
  rw [← hG] at HG ⊢
  obtain ⟨r, hr⟩ : ∃ r, r = lookP t l := ⟨_, rfl⟩
  rw [← hr] at HG HL
  clear hG hr h
  have KL := hide (fun W => liveF_any W (pinO r).f now)
  obtain ⟨lb, hlb⟩ : ∃ x, x = liveB (pinO r).f now := ⟨_, rfl⟩
  have HGR : Hid (G = if r.isSome = true ∧ lb = true then r else none) := hide (by
    rw [HG.out, hlb]
    cases r with
    | none => rfl
    | some q => by_cases hq : liveB q.f now = true <;> simp [pinO, hq])
  rw [← hlb] at KL
  have HF := hide (pin_flow (pinO r))
  have HX := hide (pin_x (pinO r))
  have HS := hide (pin_size (pinO r))
  have HO := hide (pin_one (pinO r))
  obtain ⟨X, hX⟩ : ∃ X, X = pinA (pinO r) := ⟨_, rfl⟩
  obtain ⟨Y, hY⟩ : ∃ Y, Y = flA (pinO r).f := ⟨_, rfl⟩
  have HXr := hide hX
  have fy := HF.out
  have fx := HX.out
  have fs := HS.out
  have fo := HO.out
  rw [← hX, ← hY] at fy
  rw [← hX] at fx fs fo HL
  unfold flV at KL
  rw [← hY] at KL
  obtain ⟨ok, hok⟩ : ∃ ok, ok = r.isSome := ⟨_, rfl⟩
  rw [← hok] at HL HGR
  have HOK := hide hok
  clear hX hY hlb HG HF HX HS HO hok
  have tx := tup_x t
  have ts := tup_size t
  have t1 := tup_one t
  have zx := pin_x pinZ
  have zs := pin_size pinZ
  have z1 := pin_one pinZ
  have HZ : Hid (∀ X : Array Value, X.size = 42 → (Try.prog.info? 66).map (·.size) = some X.size) := hide fun X h => by rw [h]; exact info_pin
  unfold encT
  obtain ⟨TX, hTX⟩ : ∃ TX, TX = tupA t := ⟨_, rfl⟩
  rw [← hTX] at tx ts t1 HL
  rw [← hTX]
  clear hTX
  have HB := hide (Below.refl w.heap.size w)
  obtain ⟨W1, hW1, r_t, z1, b1⟩ := alloc_nm w (.cells TX 63)
  clear z1
  replace HB := hide (HB.out.trans (b1.mono HB.out.size))
  clear b1
  obtain ⟨W2, hW2, r_r, z2, b2⟩ := alloc_nm W1 (.cells (pinA pinZ) 66)
  clear z2
  replace r_t := keepB b2 r_t
  replace HB := hide (HB.out.trans (b2.mono HB.out.size))
  clear b2
  have r_s := HP.out W2 HB.out
  have hlk := HL.out W2.drew (below_drewP HB.out)
  obtain ⟨W3, hW3, r_q, z3, b3⟩ := alloc_nm W2 (.cells (pinA pinZ) 66)
  have HB3 := hide (HB.out.trans (b3.mono HB.out.size))
  have r_r3 := keepB b3 r_r
  have r_t3 := keepB b3 r_t
  have HNE : Hid (W1.heap.size ≠ W2.heap.size ∧ w.heap.size ≤ W2.heap.size ∧ w.heap.size ≤ W1.heap.size) := hide (by have h1 := congrArg (fun W => W.heap.size) hW1; have h2 := congrArg (fun W => W.heap.size) hW2; simp at h1 h2; omega)
  clear z3 b3
  have r_sd : W2.drew.heap[p]? = _ := r_s
  have k_s := cell_of_row W2.drew p 1 _ _ (0, 0) r_sd
  simp only [List.getElem?_toArray] at k_s
  have k_s2 : W2.drew.cell? ⟨p, 1, none⟩ = some (.map (some bp)) := k_s
  clear k_s
  have hlk3 := HL.out W3.drew (below_drewP HB3.out)
  have k_s3 : W3.drew.cell? ⟨p, 1, none⟩ = some (.map (some bp)) := (cell_of_row W3.drew p 1 _ _ (0, 0) (show W3.drew.heap[p]? = _ from HP.out W3 HB3.out)).trans rfl
  obtain ⟨W4, hW4⟩ : ∃ W4, W3.drew.setRow W2.heap.size X = W4 := ⟨_, rfl⟩
  have q_q : W4.heap[W2.heap.size]? = some (.cells X 66 (0, 0)) := by rw [← hW4]; exact setRow_heap _ _ _ _ _ _ (show W3.drew.heap[W2.heap.size]? = _ from r_q)
  have q_r : W4.heap[W1.heap.size]? = some (.cells (pinA pinZ) 66 (0, 0)) := by rw [← hW4]; exact (setRow_other _ _ _ _ HNE.out.1).trans (show W3.drew.heap[W1.heap.size]? = _ from r_r3)
  have HB4 : Hid (Below w.heap.size w W4) := hide (by rw [← hW4]; exact below_setRow (below_drewP HB3.out) HNE.out.2.1 _)
  have HW : Hid (∀ W, Below W4.heap.size W4 W → W.heap[W2.heap.size]? = some (.cells X 66 (0, 0)) ∧ W.heap[W1.heap.size]? = some (.cells (pinA pinZ) 66 (0, 0)) ∧ Below w.heap.size w W) := hide fun W hb => ⟨keepB hb q_q, keepB hb q_r, HB4.out.trans (hb.mono HB4.out.size)⟩
  cases ok
  · obtain rfl : G = none := by rw [HGR.out]; simp
    go_enter Try.func52, Try.ntmps52
    go_upto_region 1 with (fail)
    go_region_law (fail)
    all_goals
      have HX5 := hide (HW.out W4 (Below.refl _ _))
      go_wp2
      refine bodyPost_ret (results_cell_tmp (fn := Try.f52) Try.results52 _ _ W1.heap.size 66 (pinA pinZ) (0, 0) _ rfl (setRow_heap _ _ _ _ _ _ HX5.out.2.1) Try.underlying66 rfl (HZ.out _ (pin_size pinZ))) rfl ?_
      exact ⟨rfl, below_setRow HX5.out.2.2 HNE.out.2.2 _⟩
  · cases lb
    · obtain rfl : G = none := by rw [HGR.out]; simp
      go_enter Try.func52, Try.ntmps52
      go_upto_region 1 with (fail)
      go_region_law (fail)
      all_goals
        go_wp2_with fail
        go_at_call 18
        with_reducible refine (KL.out _).mono ?_
        rintro e W5 ⟨rfl, b5⟩
        have HX5 := hide (HW.out W5 b5)
        obtain ⟨x5, y5, _⟩ := HW.out W5 b5
        clear b5
        dsimp only
        go_wp2
        refine bodyPost_ret (results_cell_tmp (fn := Try.f52) Try.results52 _ _ W1.heap.size 66 (pinA pinZ) (0, 0) _ rfl (setRow_heap _ _ _ _ _ _ HX5.out.2.1) Try.underlying66 rfl (HZ.out _ (pin_size pinZ))) rfl ?_
        exact ⟨rfl, below_setRow HX5.out.2.2 HNE.out.2.2 _⟩
    · obtain rfl : G = r := by rw [HGR.out]; simp
      go_enter Try.func52, Try.ntmps52
      go_upto_region 1 with (fail)
      go_region_law (fail)
      all_goals
        go_wp2_with fail
        go_at_call 18
        with_reducible refine (KL.out _).mono ?_
        rintro e W5 ⟨rfl, b5⟩
        have HX5 := hide (HW.out W5 b5)
        obtain ⟨x5, y5, _⟩ := HW.out W5 b5
        clear b5
        dsimp only
        go_wp2
        refine bodyPost_ret (results_cell_tmp (fn := Try.f52) Try.results52 _ _ W1.heap.size 66 X (0, 0) _ rfl (setRow_heap _ _ _ _ _ _ HX5.out.2.1) Try.underlying66 rfl (HZ.out _ fs)) rfl ?_
        exact ⟨by unfold gotV; rw [← HXr.out, ← HOK.out]; rfl, below_setRow HX5.out.2.2 HNE.out.2.2 _⟩
end Go.Proofs.Ytbkipfmnbfjkcaa
