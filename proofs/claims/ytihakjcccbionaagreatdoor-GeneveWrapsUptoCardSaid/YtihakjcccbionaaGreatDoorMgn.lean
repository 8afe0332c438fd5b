import Derived.Test.YtihakjcccbionaaGreatDoorLent
import Derived.Test.YtihakjcccbionaaGreatDoorMla
import Derived.Test.YtihakjcccbionaaGreatDoorMrd
section
/-
  The words of geneve's options and tunnels; the walks of upTo, right, sizeOpts, critical, flags.
-/
namespace Go.Proofs.YtihakjcccbionaaGreatDoor
open Go.RowKit
set_option maxRecDepth 100000
set_option linter.unusedVariables false
set_option linter.unusedSimpArgs false

/-- an option: its numbers, its slice, the bytes that it holds. -/
structure OpG where
  c : Int
  t : Int
  a : Option Addr
  k : Nat
  d : List UInt8
/-- the slice that begins at A reads, below block B, as these options. -/
def RdG (w : World) (B : Nat) (A : Option Addr) (l : List OpG) : Prop :=
  0 < l.length → ∃ b off, A = some ⟨b, off, none⟩ ∧ b < B ∧ ∀ i (h : i < l.length), w.cell? ⟨b, off + i * 3, none⟩ = some (.int .i64 l[i].c) ∧ w.cell? ⟨b, off + i * 3 + 1, none⟩ = some (.int .i64 l[i].t) ∧ w.cell? ⟨b, off + i * 3 + 2, none⟩ = some (.slice l[i].a l[i].d.length l[i].k)
theorem RdG.below {w w' : World} {B : Nat} {A : Option Addr} {l : List OpG} (h : RdG w B A l) (hb : Below B w w') : RdG w' B A l := fun h0 => by
  obtain ⟨b, off, e, hlt, hc⟩ := h h0
  exact ⟨b, off, e, hlt, fun i hi => ⟨(hb.cell (p := ⟨b, off + i * 3, none⟩) hlt).trans (hc i hi).1, (hb.cell (p := ⟨b, off + i * 3 + 1, none⟩) hlt).trans (hc i hi).2.1, (hb.cell (p := ⟨b, off + i * 3 + 2, none⟩) hlt).trans (hc i hi).2.2⟩⟩
theorem RdG.more {w : World} {B B' : Nat} {A : Option Addr} {l : List OpG} (h : RdG w B A l) (hB : B ≤ B') : RdG w B' A l := fun h0 => by
  obtain ⟨b, off, e, hlt, hc⟩ := h h0
  exact ⟨b, off, e, Nat.lt_of_lt_of_le hlt hB, hc⟩
def upG (m n : Int) : Bool := decide (0 ≤ n) && decide (n ≤ m)
def okG (o : OpG) : Bool := upG 65535 o.c && (upG 255 o.t && (o.d.length % 4 == 0 && decide (o.d.length ≤ 124)))
def sizeG : List OpG → Nat
  | [] => 0
  | o :: t => (4 + o.d.length) + sizeG t
def critG (l : List OpG) : Bool := l.any fun o => decide (128 ≤ o.t)
theorem sizeG_snoc (l : List OpG) (o : OpG) : sizeG (l ++ [o]) = sizeG l + (4 + o.d.length) := by
  induction l with
  | nil => simp [sizeG]
  | cons a l ih => simp only [List.cons_append, sizeG, ih]; omega
theorem upG_any (m n : Int) (w : World) : Calls Tryz.prog 61 #[.int .i64 m, .int .i64 n] w fun e w' => e = .returned (.bool (upG m n)) ∧ w = w' := by
  by_cases h1 : 0 ≤ n
  · by_cases h2 : n ≤ m
    · go_enter Tryz.func61, Tryz.ntmps61
      go_wp2
      go_ret
      exact ⟨by simp [upG, h1, h2], rfl⟩
    · go_enter Tryz.func61, Tryz.ntmps61
      go_wp2
      go_ret
      exact ⟨by simp [upG, h1, h2], rfl⟩
  · go_enter Tryz.func61, Tryz.ntmps61
    go_wp2
    go_ret
    exact ⟨by simp [upG]; omega, rfl⟩
theorem upG7_any (n m : Int) (w : World) : Calls Tryz.prog 40 #[.int .i64 n, .int .i64 m] w fun e w' => e = .returned (.bool (upG m n)) ∧ w = w' := by
  by_cases h1 : 0 ≤ n
  · by_cases h2 : n ≤ m
    · go_enter Tryz.func40, Tryz.ntmps40
      go_wp2
      go_ret
      exact ⟨by simp [upG, h1, h2], rfl⟩
    · go_enter Tryz.func40, Tryz.ntmps40
      go_wp2
      go_ret
      exact ⟨by simp [upG, h1, h2], rfl⟩
  · go_enter Tryz.func40, Tryz.ntmps40
    go_wp2
    go_ret
    exact ⟨by simp [upG]; omega, rfl⟩

theorem sizeG_take {l : List OpG} {j : Nat} (h : j < l.length) : sizeG (l.take (j + 1)) = sizeG (l.take j) + (4 + l[j].d.length) := by
  rw [List.take_succ_eq_append_getElem h, sizeG_snoc]
theorem sizeG_le (l : List OpG) (j : Nat) : sizeG (l.take j) ≤ sizeG l := by
  induction l generalizing j with
  | nil => simp
  | cons a l ih =>
    cases j with
    | zero => simp [sizeG]
    | succ j => simp only [List.take_succ_cons, sizeG]; have := ih j; omega
set_option maxHeartbeats 2000000 in
theorem sizeOpts_any (w : World) (A : Option Addr) (c : Nat) (l : List OpG) (h : RdG w w.heap.size A l) (hs : sizeG l ≤ 4611686018427387904) (hl : l.length ≤ 1048576) :
    Calls Tryz.prog 26 #[.slice A l.length c] w fun e w' => e = .returned (.int .i64 (sizeG l : Nat)) ∧ Below w.heap.size w w' := by
  have HL := hide hl
  have HS := hide hs
  have HR := hide h
  clear hl hs h
  go_enter Tryz.func26, Tryz.ntmps26
  go_wp2
  go_loopw [3, 5, 8] (fun v _ i wr => ∃ (j : Nat), j ≤ l.length ∧ i = .int .i64 (j : Int) ∧ v = .int .i64 ((sizeG (l.take j) : Nat) : Int) ∧ Hid (Below w.heap.size w wr))
    (fun _ _ i _ => l.length - (intOf i).toNat)
  case atStart => exact ⟨0, by omega, rfl, rfl, hide (Below.refl _ _)⟩
  case round =>
    obtain ⟨j, hj, rfl, rfl, hb⟩ := hrel
    by_cases hlt : j < l.length
    · obtain ⟨bb, off, rfl, hbb, hc⟩ := HR.out (by omega)
      obtain ⟨c0, c1, c2⟩ := hc j hlt
      have d0 := (hb.out.cell (p := ⟨bb, off + j * 3, none⟩) hbb).trans c0
      have d1 := (hb.out.cell (p := ⟨bb, off + j * 3 + 1, none⟩) hbb).trans c1
      have d2 := (hb.out.cell (p := ⟨bb, off + j * 3 + 2, none⟩) hbb).trans c2
      have hst := sizeG_take hlt
      have hsl := sizeG_le l (j + 1)
      obtain ⟨n, hn⟩ : ∃ n, n = l[j].d.length := ⟨_, rfl⟩
      obtain ⟨S, hS⟩ : ∃ S, S = sizeG (l.take j) := ⟨_, rfl⟩
      obtain ⟨oc, hoc⟩ : ∃ n, n = l[j].c := ⟨_, rfl⟩
      obtain ⟨ot, hot⟩ : ∃ n, n = l[j].t := ⟨_, rfl⟩
      obtain ⟨oa, hoa⟩ : ∃ n, n = l[j].a := ⟨_, rfl⟩
      obtain ⟨ok, hok⟩ : ∃ n, n = l[j].k := ⟨_, rfl⟩
      rw [← hoc] at d0
      rw [← hot] at d1
      rw [← hn, ← hoa, ← hok] at d2
      rw [← hn, ← hS] at hst
      rw [← hS]
      have HST := hide hst
      have hj1 : (j : Int) < (l.length : Int) := by omega
      have hj0 : (0 : Int) ≤ (j : Int) := by omega
      have hjb : j < 1048576 := by have := HL.out; omega
      have w1 : IntKind.i64.wrap (4 + (n : Int)) = 4 + (n : Int) := IntWalk.i64_in _ (by have := HS.out; omega)
      have w2 : IntKind.i64.wrap ((S : Int) + (4 + (n : Int))) = (S : Int) + (4 + (n : Int)) := IntWalk.i64_in _ (by have := HS.out; omega)
      have hb2 : Hid (Below w.heap.size w (wr.alloc (.cells #[.int .i64 oc, .int .i64 ot, .slice oa n ok] 60))) := hide (hb.out.alloc hb.out.size _)
      clear c0 c1 c2 hc hbb hn hS hoc hot hoa hok hst hsl hb
      go_wp2
      go_roundw
      case rel => exact ⟨j + 1, by omega, by go_num, by rw [HST.out]; exact congrArg (Value.int IntKind.i64) (by omega), hb2⟩
      case measure => simp [intOf]; omega
    · have hjl : j = l.length := by omega
      subst hjl
      rw [List.take_length]
      clear hlt
      go_wp2
      go_ret
      exact ⟨rfl, hb.out⟩
theorem critG_take {l : List OpG} {j : Nat} (h : j < l.length) : critG (l.take (j + 1)) = (critG (l.take j) || decide (128 ≤ l[j].t)) := by
  unfold critG
  rw [List.take_succ_eq_append_getElem h, List.any_append, List.any_cons, List.any_nil, Bool.or_false]
theorem critG_at {l : List OpG} {j : Nat} (h : j < l.length) (ht : 128 ≤ l[j].t) : critG l = true := by
  unfold critG
  rw [List.any_eq_true]
  exact ⟨l[j], List.getElem_mem h, by simpa using ht⟩
set_option maxHeartbeats 2000000 in
theorem critical_any (w : World) (A : Option Addr) (c : Nat) (l : List OpG) (h : RdG w w.heap.size A l) (hl : l.length ≤ 1048576) :
    Calls Tryz.prog 55 #[.slice A l.length c] w fun e w' => e = .returned (.bool (critG l)) ∧ Below w.heap.size w w' := by
  have HL := hide hl
  have HR := hide h
  clear hl h
  go_enter Tryz.func55, Tryz.ntmps55
  go_wp2
  go_loopw [4, 7] (fun _ i wr => ∃ (j : Nat), j ≤ l.length ∧ i = .int .i64 (j : Int) ∧ Hid (critG (l.take j) = false) ∧ Hid (Below w.heap.size w wr))
    (fun _ i _ => l.length - (intOf i).toNat)
  case atStart => exact ⟨0, by omega, rfl, hide rfl, hide (Below.refl _ _)⟩
  case round =>
    obtain ⟨j, hj, rfl, hcr, hb⟩ := hrel
    by_cases hlt : j < l.length
    · obtain ⟨bb, off, rfl, hbb, hc⟩ := HR.out (by omega)
      obtain ⟨c0, c1, c2⟩ := hc j hlt
      have d0 := (hb.out.cell (p := ⟨bb, off + j * 3, none⟩) hbb).trans c0
      have d1 := (hb.out.cell (p := ⟨bb, off + j * 3 + 1, none⟩) hbb).trans c1
      have d2 := (hb.out.cell (p := ⟨bb, off + j * 3 + 2, none⟩) hbb).trans c2
      have hct := critG_take hlt
      rw [hcr.out, Bool.false_or] at hct
      have hat := hide (fun ht : 128 ≤ l[j].t => critG_at hlt ht)
      obtain ⟨n, hn⟩ : ∃ n, n = l[j].d.length := ⟨_, rfl⟩
      obtain ⟨oc, hoc⟩ : ∃ n, n = l[j].c := ⟨_, rfl⟩
      obtain ⟨ot, hot⟩ : ∃ n, n = l[j].t := ⟨_, rfl⟩
      obtain ⟨oa, hoa⟩ : ∃ n, n = l[j].a := ⟨_, rfl⟩
      obtain ⟨ok, hok⟩ : ∃ n, n = l[j].k := ⟨_, rfl⟩
      rw [← hoc] at d0
      rw [← hot] at d1 hct hat
      rw [← hn, ← hoa, ← hok] at d2
      have HCT := hide hct
      have hj1 : (j : Int) < (l.length : Int) := by omega
      have hj0 : (0 : Int) ≤ (j : Int) := by omega
      have hjb : j < 1048576 := by have := HL.out; omega
      have hb2 : Hid (Below w.heap.size w (wr.alloc (.cells #[.int .i64 oc, .int .i64 ot, .slice oa n ok] 60))) := hide (hb.out.alloc hb.out.size _)
      clear c0 c1 c2 hc hbb hn hoc hot hoa hok hct hb hcr
      by_cases h128 : 128 ≤ ot
      · have hf := hide (hat.out h128)
        go_wp2
        go_ret
        exact ⟨by rw [hf.out]; rfl, hb2.out⟩
      · have hf : Hid (critG (l.take (j + 1)) = false) := hide (by rw [HCT.out]; simpa using h128)
        clear hat
        go_wp2
        go_roundw
        case rel => exact ⟨j + 1, by omega, by go_num, hf, hb2⟩
        case measure => simp [intOf]; omega
    · have hjl : j = l.length := by omega
      subst hjl
      rw [List.take_length] at hcr
      clear hlt
      go_wp2
      go_ret
      exact ⟨by rw [hcr.out]; rfl, hb.out⟩

theorem one_blk (w : World) (o : Obj) : ∃ W, w.alloc o = W ∧ W.heap[w.heap.size]? = some o ∧ W.heap.size = w.heap.size + 1 ∧ Below w.heap.size w W :=
  ⟨_, rfl, heap_alloc_new w o, by simp, (Below.refl _ _).alloc (Nat.le_refl _) _⟩
/-- a tunnel's cells. -/
def tunA (o : Bool) (p v : Int) (A : Option Addr) (n c : Nat) (I : Option Addr) (m k : Nat) : Array Value := #[.bool o, .int .i64 p, .int .i64 v, .slice A n c, .slice I m k]
theorem tunA_cells {w : World} {g : Nat} {o : Bool} {p v : Int} {A I : Option Addr} {n c m k : Nat} {ty : TypeId} (hg : w.heap[g]? = some (.cells (tunA o p v A n c I m k) ty (0, 0))) :
    w.cell? ⟨g, 0, none⟩ = some (.bool o) ∧ w.cell? ⟨g, 1, none⟩ = some (.int .i64 p) ∧ w.cell? ⟨g, 2, none⟩ = some (.int .i64 v) ∧ w.cell? ⟨g, 3, none⟩ = some (.slice A n c) ∧ w.cell? ⟨g, 4, none⟩ = some (.slice I m k) := by
  have h : ∀ j, w.cell? ⟨g, j, none⟩ = (tunA o p v A n c I m k)[j]? := fun j => cell_of_row w g j _ ty (0, 0) hg
  refine ⟨?_, ?_, ?_, ?_, ?_⟩ <;> rw [h] <;> rfl
def flG (o : Bool) (l : List OpG) : Int := (if o then 128 else 0) + (if critG l then 64 else 0)
set_option maxHeartbeats 2000000 in
theorem flags_any (w : World) (o : Bool) (p v : Int) (A I : Option Addr) (c m k : Nat) (l : List OpG) (h : RdG w w.heap.size A l) (hl : l.length ≤ 1048576) :
    Calls Tryz.prog 28 #[.agg (tunA o p v A l.length c I m k)] w fun e w' => e = .returned (.int .i64 (flG o l)) ∧ Below w.heap.size w w' := by
  obtain ⟨W, hW, r1, hz, hbW⟩ := one_blk w (.cells (tunA o p v A l.length c I m k) 38)
  obtain ⟨c0, c1, c2, c3, c4⟩ := tunA_cells r1
  have KC := hide (critical_any W A c l ((h.below hbW).more hbW.size) hl)
  obtain ⟨cr, hcr⟩ : ∃ b, b = critG l := ⟨_, rfl⟩
  rw [← hcr] at KC
  have hF : flG o l = (if o then 128 else 0) + (if cr then 64 else 0) := by rw [hcr]; rfl
  rw [hF]
  have HB := hide hbW
  clear hcr hF hbW h hl hz
  cases o <;> cases cr
  all_goals (
    go_enter Tryz.func28, Tryz.ntmps28
    go_wp2_with fail
    refine KC.out.mono ?_
    rintro e w1 ⟨rfl, b1⟩
    have B1 := hide (HB.out.trans (b1.mono HB.out.size))
    clear b1
    dsimp only
    go_wp2
    go_ret
    exact ⟨rfl, B1.out⟩)
def rightG (p v : Int) (l : List OpG) : Bool := upG 65535 p && (upG 16777215 v && l.all okG)
theorem all_bad {l : List OpG} {j : Nat} (h : j < l.length) (hb : okG l[j] = false) : l.all okG = false := by
  rw [List.all_eq_false]
  exact ⟨l[j], List.getElem_mem h, by simp [hb]⟩
set_option maxHeartbeats 4000000 in
theorem rightG_any (w : World) (o : Bool) (p v : Int) (A I : Option Addr) (c m k : Nat) (l : List OpG) (h : RdG w w.heap.size A l) (hl : l.length ≤ 1048576) :
    Calls Tryz.prog 25 #[.agg (tunA o p v A l.length c I m k)] w fun e w' => e = .returned (.bool (rightG p v l)) ∧ Below w.heap.size w w' := by
  obtain ⟨W, hW, r1, hz, hbW⟩ := one_blk w (.cells (tunA o p v A l.length c I m k) 38)
  obtain ⟨c0, c1, c2, c3, c4⟩ := tunA_cells r1
  have KP := hide (upG_any 65535 p)
  have KV := hide (upG_any 16777215 v)
  obtain ⟨up, hup⟩ : ∃ b, b = upG 65535 p := ⟨_, rfl⟩
  obtain ⟨uv, huv⟩ : ∃ b, b = upG 16777215 v := ⟨_, rfl⟩
  rw [← hup] at KP
  rw [← huv] at KV
  have hF : rightG p v l = (up && (uv && l.all okG)) := by rw [hup, huv]; rfl
  rw [hF]
  have HB := hide hbW
  have HR := hide ((h.below hbW).more hbW.size)
  have HL := hide hl
  clear hup huv hF hbW h hl hz
  have key : up = false ∨ (up = true ∧ uv = false) ∨ (up = true ∧ uv = true) := by cases up <;> cases uv <;> simp
  rcases key with rfl | ⟨rfl, rfl⟩ | ⟨rfl, rfl⟩
  · go_enter Tryz.func25, Tryz.ntmps25
    go_wp2_with (go_at_call 61; (with_reducible refine (KP.out _).mono ?_); rintro e w1 ⟨rfl, rfl⟩)
    go_ret
    exact ⟨rfl, HB.out⟩
  · go_enter Tryz.func25, Tryz.ntmps25
    go_wp2_with (first
      | (go_at_call 61; (with_reducible refine (KP.out _).mono ?_); rintro e w1 ⟨rfl, rfl⟩)
      | (go_at_call 61; (with_reducible refine (KV.out _).mono ?_); rintro e w1 ⟨rfl, rfl⟩)
      | fail)
    go_ret
    exact ⟨rfl, HB.out⟩
  · go_enter Tryz.func25, Tryz.ntmps25
    go_wp2_with (first
      | (go_at_call 61; (with_reducible refine (KP.out _).mono ?_); rintro e w1 ⟨rfl, rfl⟩)
      | (go_at_call 61; (with_reducible refine (KV.out _).mono ?_); rintro e w1 ⟨rfl, rfl⟩)
      | fail)
    go_loopw [4, 18] (fun _ i wr => ∃ (j : Nat), j ≤ l.length ∧ i = .int .i64 (j : Int) ∧ Hid ((l.take j).all okG = true) ∧ Hid (Below W.heap.size W wr))
      (fun _ i _ => l.length - (intOf i).toNat)
    case atStart => exact ⟨0, by omega, rfl, hide rfl, hide (Below.refl _ _)⟩
    case round =>
      obtain ⟨j, hj, rfl, hcr, hb⟩ := hrel
      by_cases hlt : j < l.length
      · obtain ⟨bb, off, rfl, hbb, hc⟩ := HR.out (by omega)
        obtain ⟨c0', c1', c2'⟩ := hc j hlt
        have d0 := (hb.out.cell (p := ⟨bb, off + j * 3, none⟩) hbb).trans c0'
        have d1 := (hb.out.cell (p := ⟨bb, off + j * 3 + 1, none⟩) hbb).trans c1'
        have d2 := (hb.out.cell (p := ⟨bb, off + j * 3 + 2, none⟩) hbb).trans c2'
        have hat := hide (fun hf : okG l[j] = false => all_bad hlt hf)
        have hon : Hid (okG l[j] = true → (l.take (j + 1)).all okG = true) := hide (fun hf => by
          rw [List.take_succ_eq_append_getElem hlt, List.all_append, hcr.out, List.all_cons, hf]; rfl)
        have hok : okG l[j] = (upG 65535 l[j].c && (upG 255 l[j].t && (l[j].d.length % 4 == 0 && decide (l[j].d.length ≤ 124)))) := rfl
        obtain ⟨K, hK⟩ : ∃ b, b = okG l[j] := ⟨_, rfl⟩
        rw [← hK] at hat hon hok
        obtain ⟨n, hn⟩ : ∃ n, n = l[j].d.length := ⟨_, rfl⟩
        obtain ⟨oc, hoc⟩ : ∃ n, n = l[j].c := ⟨_, rfl⟩
        obtain ⟨ot, hot⟩ : ∃ n, n = l[j].t := ⟨_, rfl⟩
        obtain ⟨oa, hoa⟩ : ∃ n, n = l[j].a := ⟨_, rfl⟩
        obtain ⟨okk, hokk⟩ : ∃ n, n = l[j].k := ⟨_, rfl⟩
        rw [← hn, ← hoc, ← hot] at hok
        rw [← hoc] at d0
        rw [← hot] at d1
        rw [← hn, ← hoa, ← hokk] at d2
        have K1 := hide (upG_any 65535 oc)
        have K2 := hide (upG_any 255 ot)
        obtain ⟨u1, hu1⟩ : ∃ b, b = upG 65535 oc := ⟨_, rfl⟩
        obtain ⟨u2, hu2⟩ : ∃ b, b = upG 255 ot := ⟨_, rfl⟩
        rw [← hu1] at K1 hok
        rw [← hu2] at K2 hok
        have hj1 : (j : Int) < (l.length : Int) := by omega
        have hj0 : (0 : Int) ≤ (j : Int) := by omega
        have hjb : j < 1048576 := by have := HL.out; omega
        have hb2 : Hid (Below W.heap.size W (wr.alloc (.cells #[.int .i64 oc, .int .i64 ot, .slice oa n okk] 60))) := hide (hb.out.alloc hb.out.size _)
        have kk : (u1 = false ∧ K = false) ∨ (u1 = true ∧ u2 = false ∧ K = false) ∨ (u1 = true ∧ u2 = true ∧ ((n : Int) % 4 != 0) = true ∧ K = false) ∨ (u1 = true ∧ u2 = true ∧ ((n : Int) % 4 != 0) = false ∧ (124 : Int) < (n : Int) ∧ K = false) ∨ (u1 = true ∧ u2 = true ∧ ((n : Int) % 4 != 0) = false ∧ ¬ (124 : Int) < (n : Int) ∧ K = true) := by
          have n4 : ((n : Int) % 4 != 0) = !(n % 4 == 0) := by
            rw [Bool.eq_iff_iff]; simp; omega
          rw [n4, hok]
          by_cases h4 : n % 4 = 0 <;> by_cases h124 : n ≤ 124 <;> cases u1 <;> cases u2 <;> simp [h4, h124] <;> omega
        clear c0' c1' c2' hc hbb hn hoc hot hoa hokk hok hb hcr hK hu1 hu2
        rcases kk with ⟨rfl, rfl⟩ | ⟨rfl, rfl, rfl⟩ | ⟨rfl, rfl, q1, rfl⟩ | ⟨rfl, rfl, q1, q2, rfl⟩ | ⟨rfl, rfl, q1, q2, rfl⟩
        rotate_right
        · have hf := hide (hon.out rfl)
          clear hat hon
          go_wp2_with (first
            | (go_at_call 61; (with_reducible refine (K1.out _).mono ?_); rintro e w1 ⟨rfl, rfl⟩)
            | (go_at_call 61; (with_reducible refine (K2.out _).mono ?_); rintro e w1 ⟨rfl, rfl⟩)
            | fail)
          go_roundw
          case rel => exact ⟨j + 1, by omega, by go_num, hf, hb2⟩
          case measure => simp [intOf]; omega
        all_goals (
          have hf := hide (hat.out rfl)
          clear hat hon
          go_wp2_with (first
            | (go_at_call 61; (with_reducible refine (K1.out _).mono ?_); rintro e w1 ⟨rfl, rfl⟩)
            | (go_at_call 61; (with_reducible refine (K2.out _).mono ?_); rintro e w1 ⟨rfl, rfl⟩)
            | fail)
          go_ret
          exact ⟨by rw [hf.out]; rfl, HB.out.trans (hb2.out.mono HB.out.size)⟩)
      · have hjl : j = l.length := by omega
        subst hjl
        rw [List.take_length] at hcr
        clear hlt
        go_wp2
        go_ret
        exact ⟨by rw [hcr.out]; rfl, HB.out.trans (hb.out.mono HB.out.size)⟩
end Go.Proofs.YtihakjcccbionaaGreatDoor

end
section
/-
  The walks of geneve's layout: a number, bytes.
-/
namespace Go.Proofs.YtihakjcccbionaaGreatDoor
open Go.RowKit
set_option maxRecDepth 100000
set_option linter.unusedVariables false
set_option linter.unusedSimpArgs false

/-- the pieces that are laid: the two rows of the layout at g. -/
structure LayG (w : World) (base g : Nat) (vv oo : Value) (items : List VItem) (ops : List (Int × Int)) : Prop where
  row : w.heap[g]? = some (.cells #[vv, oo] 79 (0, 0))
  lt : g < base
  v : w.ownsRow base 120 2 vv items.length (itemCells items)
  o : w.ownsRow base 121 2 oo ops.length (opCells ops)
  d : vv.ownBlock = none ∨ vv.ownBlock ≠ oo.ownBlock
  b : base ≤ w.heap.size
/-- what a call on the layout leaves as it was. -/
structure LayF (w w' : World) (g : Nat) (vv oo vv' oo' : Value) : Prop where
  os : w'.os = w.os
  tape : w'.tape = w.tape
  output : w'.output = w.output
  size : w.heap.size ≤ w'.heap.size
  block : ∀ k, k < w.heap.size → k ≠ g → vv.ownBlock ≠ some k → oo.ownBlock ≠ some k → w'.heap[k]? = w.heap[k]?
  nv : vv'.ownBlock = vv.ownBlock ∨ ∀ k, vv'.ownBlock = some k → w.heap.size ≤ k
  no : oo'.ownBlock = oo.ownBlock ∨ ∀ k, oo'.ownBlock = some k → w.heap.size ≤ k
theorem lay_cells {w : World} {base g : Nat} {vv oo : Value} {items : List VItem} {ops : List (Int × Int)} (h : LayG w base g vv oo items ops) : w.cell? ⟨g, 0, none⟩ = some vv ∧ w.cell? ⟨g, 1, none⟩ = some oo ∧ w.frozen? ⟨g, 0, none⟩ = false ∧ w.frozen? ⟨g, 1, none⟩ = false := by
  have e : ∀ j, w.cell? ⟨g, j, none⟩ = #[vv, oo][j]? := fun j => cell_of_row w g j _ _ (0, 0) h.row
  refine ⟨?_, ?_, frozen_of_row w g 0 _ _ h.row, frozen_of_row w g 1 _ _ h.row⟩ <;> rw [e] <;> rfl
/-- the row of values grows by one: what is so behind the append and its store. -/
theorem LayG.val {w w4 : World} {base g : Nat} {vv oo vv' : Value} {items : List VItem} {ops : List (Int × Int)} {it : VItem} (h : LayG w base g vv oo items ops) (hg : w.grownBy w4 vv.ownBlock) (hv : w4.ownsRow base 120 2 vv' (items ++ [it]).length (itemCells (items ++ [it]))) (ha : vv'.ownBlock = vv.ownBlock ∨ ∀ k, vv'.ownBlock = some k → w.heap.size ≤ k) :
    LayG (w4.setCell ⟨g, 0, none⟩ vv') base g vv' oo (items ++ [it]) ops ∧ LayF w (w4.setCell ⟨g, 0, none⟩ vv') g vv oo vv' oo := by
  have hgne : ∀ k, vv.ownBlock = some k → k ≠ g := fun k hk e => by have := (World.ownsRow.lt h.v k hk).1; have := h.lt; omega
  have hgl : g < w.heap.size := (Array.getElem?_eq_some_iff.1 h.row).1
  have r4 : w4.heap[g]? = some (.cells #[vv, oo] 79 (0, 0)) := (hg.block g hgl (fun e => hgne g e.symm rfl)).trans h.row
  have r5 := heap_setCell_same w4 g 0 _ _ vv' r4
  have g5 := grown_set w4 g 0 vv'
  have hvg : vv'.ownBlock = none ∨ vv'.ownBlock ≠ some g := by
    by_cases e : vv'.ownBlock = some g
    · have := (World.ownsRow.lt hv g e).1; have := h.lt; omega
    · exact .inr e
  have o4 : w4.ownsRow base 121 2 oo ops.length (opCells ops) := World.ownsRow.kept h.o hg (by
    rcases h.d with e | e
    · by_cases en : oo.ownBlock = none
      · exact .inl en
      · exact .inr (by rw [e]; exact en)
    · exact .inr (fun e2 => e e2.symm))
  have hog : oo.ownBlock = none ∨ oo.ownBlock ≠ some g := by
    by_cases e : oo.ownBlock = some g
    · have := (World.ownsRow.lt h.o g e).1; have := h.lt; omega
    · exact .inr e
  refine ⟨⟨r5, h.lt, World.ownsRow.kept hv g5 hvg, World.ownsRow.kept o4 g5 hog, ?_, Nat.le_trans h.b (Nat.le_trans hg.size g5.size)⟩, ⟨g5.os.trans hg.os, g5.tape.trans hg.tape, g5.output.trans hg.output, Nat.le_trans hg.size g5.size, fun k hk hkg hkv hko => ?_, ha, .inl rfl⟩⟩
  · rcases ha with e | e
    · rw [e]; exact h.d
    · by_cases en : vv'.ownBlock = none
      · exact .inl en
      · refine .inr (fun e2 => ?_)
        obtain ⟨k, hk⟩ := Option.ne_none_iff_exists'.1 en
        have h1 := e k hk
        have h2 := (World.ownsRow.lt h.o k (by rw [← e2]; exact hk)).2
        omega
  · exact (g5.block k (Nat.lt_of_lt_of_le hk hg.size) (fun e => hkg (Option.some.inj e))).trans (hg.block k hk (fun e => hkv e.symm))
theorem LayG.op {w w4 : World} {base g : Nat} {vv oo oo' : Value} {items : List VItem} {ops : List (Int × Int)} {it : Int × Int} (h : LayG w base g vv oo items ops) (hg : w.grownBy w4 oo.ownBlock) (hv : w4.ownsRow base 121 2 oo' (ops ++ [it]).length (opCells (ops ++ [it]))) (ha : oo'.ownBlock = oo.ownBlock ∨ ∀ k, oo'.ownBlock = some k → w.heap.size ≤ k) :
    LayG (w4.setCell ⟨g, 1, none⟩ oo') base g vv oo' items (ops ++ [it]) ∧ LayF w (w4.setCell ⟨g, 1, none⟩ oo') g vv oo vv oo' := by
  have hgne : ∀ k, oo.ownBlock = some k → k ≠ g := fun k hk e => by have := (World.ownsRow.lt h.o k hk).1; have := h.lt; omega
  have hgl : g < w.heap.size := (Array.getElem?_eq_some_iff.1 h.row).1
  have r4 : w4.heap[g]? = some (.cells #[vv, oo] 79 (0, 0)) := (hg.block g hgl (fun e => hgne g e.symm rfl)).trans h.row
  have r5 := heap_setCell_same w4 g 1 _ _ oo' r4
  have g5 := grown_set w4 g 1 oo'
  have hvg : oo'.ownBlock = none ∨ oo'.ownBlock ≠ some g := by
    by_cases e : oo'.ownBlock = some g
    · have := (World.ownsRow.lt hv g e).1; have := h.lt; omega
    · exact .inr e
  have o4 : w4.ownsRow base 120 2 vv items.length (itemCells items) := World.ownsRow.kept h.v hg h.d
  have hog : vv.ownBlock = none ∨ vv.ownBlock ≠ some g := by
    by_cases e : vv.ownBlock = some g
    · have := (World.ownsRow.lt h.v g e).1; have := h.lt; omega
    · exact .inr e
  refine ⟨⟨r5, h.lt, World.ownsRow.kept o4 g5 hog, World.ownsRow.kept hv g5 hvg, ?_, Nat.le_trans h.b (Nat.le_trans hg.size g5.size)⟩, ⟨g5.os.trans hg.os, g5.tape.trans hg.tape, g5.output.trans hg.output, Nat.le_trans hg.size g5.size, fun k hk hkg hkv hko => ?_, .inl rfl, ha⟩⟩
  · rcases ha with e | e
    · rw [e]; exact h.d
    · by_cases en : vv.ownBlock = none
      · exact .inl en
      · refine .inr (fun e2 => ?_)
        obtain ⟨k, hk⟩ := Option.ne_none_iff_exists'.1 en
        have h1 := e k (by rw [← e2]; exact hk)
        have h2 := (World.ownsRow.lt h.v k hk).2
        omega
  · exact (g5.block k (Nat.lt_of_lt_of_le hk hg.size) (fun e => hkg (Option.some.inj e))).trans (hg.block k hk (fun e => hko e.symm))
theorem LayF.trans {w w' w'' : World} {g : Nat} {vv oo vv' oo' vv'' oo'' : Value} (h : LayF w w' g vv oo vv' oo') (h' : LayF w' w'' g vv' oo' vv'' oo'') : LayF w w'' g vv oo vv'' oo'' := by
  refine ⟨h'.os.trans h.os, h'.tape.trans h.tape, h'.output.trans h.output, Nat.le_trans h.size h'.size, fun k hk hg hv ho => ?_, ?_, ?_⟩
  · refine (h'.block k (Nat.lt_of_lt_of_le hk h.size) hg (fun e => ?_) (fun e => ?_)).trans (h.block k hk hg hv ho)
    · rcases h.nv with e2 | e2
      · exact hv (e2.symm.trans e)
      · have := e2 k e; omega
    · rcases h.no with e2 | e2
      · exact ho (e2.symm.trans e)
      · have := e2 k e; omega
  · rcases h'.nv with e | e
    · rw [e]; exact h.nv
    · exact .inr (fun k hk => Nat.le_trans h.size (e k hk))
  · rcases h'.no with e | e
    · rw [e]; exact h.no
    · exact .inr (fun k hk => Nat.le_trans h.size (e k hk))

set_option maxHeartbeats 4000000 in
theorem layNum_any (w : World) (base g : Nat) (vv oo : Value) (items : List VItem) (ops : List (Int × Int)) (h : LayG w base g vv oo items ops) (hl : items.length ≤ 8388608) (hl2 : ops.length ≤ 8388608) (sz : Int) (N : Nat) (hN : N < 9223372036854775808) :
    Calls Tryz.prog 27 #[.pointer (some ⟨g, 0, none⟩), .int .i64 sz, .int .i64 (N : Int)] w fun e w' => ∃ vv' oo', e = .returned (.tuple #[]) ∧ LayG w' base g vv' oo' (items ++ [(⟨N, .slice none 0 0, []⟩ : VItem)]) (ops ++ [(0, sz)]) ∧ LayF w w' g vv oo vv' oo' := by
  obtain ⟨k0, k1, f0, f1⟩ := lay_cells h
  have hw : IntKind.u64.wrap (N : Int) = (N : Int) := IntWalk.u64_in _ (by omega)
  have HH := hide h
  have HL := hide (And.intro hl hl2)
  obtain ⟨i0, hi0, hz0, hz1, hz2⟩ := info_parts info_val
  obtain ⟨j0, hj0, hy0, hy1, hy2⟩ := info_parts info_op
  have HLIT := hide (heap_alloc_new w (.cells #[.int .u64 (N : Int), .slice none 0 0] 120))
  clear hl hl2 hN h
  go_enter Tryz.func27, Tryz.ntmps27
  go_wp2_with (at_builtin; (refine wpList_app_two rfl (.tmp 10) (.tmp 14) base 76 120 i0 _ 32 rfl Tryz.underlying76 hi0 hz0 hz1 hz2 rfl vv items.length (itemCells items) (some ⟨w.heap.size, 0, none⟩) 1 1 [.int .u64 (N : Int), .slice none 0 0] rfl rfl (by exact World.ownsRow.alloc HH.out.v _) rfl (fun _ => ⟨w.heap.size, 0, rfl, fun n u hu => by rw [cell_of_row _ _ (0 + n) _ _ (0, 0) HLIT.out, Nat.zero_add]; simpa using hu⟩) (fun e => by cases e) (fun u hu => by simp at hu; rcases hu with rfl | rfl <;> rfl) (by have := HL.out.1; unfold maxLen; omega) (by have := HL.out.1; omega) (by have := HH.out.b; simp; omega) ?_))
  intro v4 w4 hown4 hgr4 hat4
  have hg4 : w.grownBy w4 vv.ownBlock := grown_trans (World.grownBy_alloc w _ _) hgr4
  obtain ⟨its, hits⟩ : ∃ its, its = items ++ [(⟨N, .slice none 0 0, []⟩ : VItem)] := ⟨_, rfl⟩
  have hv4 : w4.ownsRow base 120 2 v4 its.length (itemCells its) := by rw [hits]; rw [itemCells_snoc, List.length_append]; exact hown4
  obtain ⟨A4, c4, hs4, -⟩ := row_reads hv4
  subst hs4
  obtain ⟨G1, F1⟩ := HH.out.val (it := ⟨N, .slice none 0 0, []⟩) hg4 (by rw [← hits]; exact hv4) (hat4.imp id (fun e k hk => by rw [e] at hk; cases hk; simp))
  have hgl : g < w.heap.size := (Array.getElem?_eq_some_iff.1 HH.out.row).1
  have r4 : w4.heap[g]? = some (.cells #[vv, oo] 79 (0, 0)) := (hg4.block g hgl (fun e => by have := (World.ownsRow.lt HH.out.v g e.symm).1; have := HH.out.lt; omega)).trans HH.out.row
  have m0 : w4.cell? ⟨g, 0, none⟩ = some vv := (cell_of_row w4 g 0 _ _ (0, 0) r4).trans rfl
  have mf := frozen_of_row w4 g 0 _ _ r4
  rw [← hits] at G1
  have HITS := hide hits
  clear hits
  obtain ⟨W5, hW5⟩ : ∃ W5, w4.setCell ⟨g, 0, none⟩ (.slice A4 its.length c4) = W5 := ⟨_, rfl⟩
  rw [hW5] at G1 F1
  obtain ⟨p0, p1, q0, q1⟩ := lay_cells G1
  have HG1 := hide G1
  have HF1 := hide F1
  have HLIT5 := hide (heap_alloc_new W5 (.cells #[.int .i64 0, .int .i64 sz] 121))
  clear hv4 G1 F1 hown4 hgr4 hat4 hg4 HLIT k0 k1 f0 f1 r4
  go_wp2_with (at_builtin; refine wpList_app_two rfl (.tmp 22) (.tmp 25) base 77 121 j0 _ 16 rfl Tryz.underlying77 hj0 hy0 hy1 hy2 rfl oo ops.length (opCells ops) (some ⟨W5.heap.size, 0, none⟩) 1 1 [.int .i64 0, .int .i64 sz] rfl rfl (by exact World.ownsRow.alloc HG1.out.o _) rfl (fun _ => ⟨W5.heap.size, 0, rfl, fun n u hu => by rw [cell_of_row _ _ (0 + n) _ _ (0, 0) HLIT5.out, Nat.zero_add]; simpa using hu⟩) (fun e => by cases e) (fun u hu => by simp at hu; rcases hu with rfl | rfl <;> rfl) (by have := HL.out.2; unfold maxLen; omega) (by have := HL.out.2; omega) (by have := HG1.out.b; simp; omega) ?_)
  intro v6 w6 hown6 hgr6 hat6
  have hg6 : W5.grownBy w6 oo.ownBlock := grown_trans (World.grownBy_alloc W5 _ _) hgr6
  obtain ⟨ops2, hops⟩ : ∃ o, o = ops ++ [((0 : Int), sz)] := ⟨_, rfl⟩
  have hv6 : OwnO w6 base v6 ops2 := by rw [hops]; unfold OwnO; rw [opCells_snoc, List.length_append]; exact hown6
  obtain ⟨A6, c6, hs6, -⟩ := hv6.shape
  subst hs6
  obtain ⟨G2, F2⟩ := HG1.out.op (it := (0, sz)) hg6 (by rw [← hops]; exact hv6) (hat6.imp id (fun e k hk => by rw [e] at hk; cases hk; simp))
  rw [← hops] at G2
  have HOPS := hide hops
  clear hops
  have hgl6 : g < W5.heap.size := (Array.getElem?_eq_some_iff.1 HG1.out.row).1
  have r6 : w6.heap[g]? = some (.cells #[.slice A4 its.length c4, oo] 79 (0, 0)) := (hg6.block g hgl6 (fun e => by have := (World.ownsRow.lt HG1.out.o g e.symm).1; have := HG1.out.lt; omega)).trans HG1.out.row
  have n0 : w6.cell? ⟨g, 1, none⟩ = some oo := (cell_of_row w6 g 1 _ _ (0, 0) r6).trans rfl
  have nf := frozen_of_row w6 g 1 _ _ r6
  have HG2 := hide G2
  have HF2 := hide (HF1.out.trans F2)
  clear hW5 m0 mf G2 F2 hv6 hown6 hgr6 hat6 hg6 r6 p0 p1 q0 q1
  go_wp2
  first | (go_end0; exact ⟨_, _, rfl, by rw [← HITS.out, ← HOPS.out]; exact HG2.out, HF2.out⟩) | exact ⟨_, _, rfl, by rw [← HITS.out, ← HOPS.out]; exact HG2.out, HF2.out⟩ | (go_ret; exact ⟨_, _, rfl, by rw [← HITS.out, ← HOPS.out]; exact HG2.out, HF2.out⟩)
set_option maxHeartbeats 4000000 in
theorem layTake_any (w : World) (base g : Nat) (vv oo : Value) (items : List VItem) (ops : List (Int × Int)) (h : LayG w base g vv oo items ops) (hl : items.length ≤ 8388608) (hl2 : ops.length ≤ 8388608) (A : Option Addr) (m c : Nat) (d : List UInt8) :
    Calls Tryz.prog 29 #[.pointer (some ⟨g, 0, none⟩), .slice A m c] w fun e w' => ∃ vv' oo', e = .returned (.tuple #[]) ∧ LayG w' base g vv' oo' (items ++ [(⟨0, .slice A m c, d⟩ : VItem)]) (ops ++ [(1, (m : Int))]) ∧ LayF w w' g vv oo vv' oo' := by
  obtain ⟨k0, k1, f0, f1⟩ := lay_cells h
  have HH := hide h
  have HL := hide (And.intro hl hl2)
  obtain ⟨i0, hi0, hz0, hz1, hz2⟩ := info_parts info_val
  obtain ⟨j0, hj0, hy0, hy1, hy2⟩ := info_parts info_op
  have HLIT := hide (heap_alloc_new w (.cells #[.int .u64 0, .slice A m c] 120))
  clear hl hl2 h
  go_enter Tryz.func29, Tryz.ntmps29
  go_wp2_with (at_builtin; (refine wpList_app_two rfl (.tmp 8) (.tmp 11) base 76 120 i0 _ 32 rfl Tryz.underlying76 hi0 hz0 hz1 hz2 rfl vv items.length (itemCells items) (some ⟨w.heap.size, 0, none⟩) 1 1 [.int .u64 0, .slice A m c] rfl rfl (by exact World.ownsRow.alloc HH.out.v _) rfl (fun _ => ⟨w.heap.size, 0, rfl, fun n u hu => by rw [cell_of_row _ _ (0 + n) _ _ (0, 0) HLIT.out, Nat.zero_add]; simpa using hu⟩) (fun e => by cases e) (fun u hu => by simp at hu; rcases hu with rfl | rfl <;> rfl) (by have := HL.out.1; unfold maxLen; omega) (by have := HL.out.1; omega) (by have := HH.out.b; simp; omega) ?_))
  intro v4 w4 hown4 hgr4 hat4
  have hg4 : w.grownBy w4 vv.ownBlock := grown_trans (World.grownBy_alloc w _ _) hgr4
  obtain ⟨its, hits⟩ : ∃ its, its = items ++ [(⟨0, .slice A m c, d⟩ : VItem)] := ⟨_, rfl⟩
  have hv4 : w4.ownsRow base 120 2 v4 its.length (itemCells its) := by rw [hits]; rw [itemCells_snoc, List.length_append]; exact hown4
  obtain ⟨A4, c4, hs4, -⟩ := row_reads hv4
  subst hs4
  obtain ⟨G1, F1⟩ := HH.out.val (it := ⟨0, .slice A m c, d⟩) hg4 (by rw [← hits]; exact hv4) (hat4.imp id (fun e k hk => by rw [e] at hk; cases hk; simp))
  have hgl : g < w.heap.size := (Array.getElem?_eq_some_iff.1 HH.out.row).1
  have r4 : w4.heap[g]? = some (.cells #[vv, oo] 79 (0, 0)) := (hg4.block g hgl (fun e => by have := (World.ownsRow.lt HH.out.v g e.symm).1; have := HH.out.lt; omega)).trans HH.out.row
  have m0 : w4.cell? ⟨g, 0, none⟩ = some vv := (cell_of_row w4 g 0 _ _ (0, 0) r4).trans rfl
  have mf := frozen_of_row w4 g 0 _ _ r4
  rw [← hits] at G1
  have HITS := hide hits
  clear hits
  obtain ⟨W5, hW5⟩ : ∃ W5, w4.setCell ⟨g, 0, none⟩ (.slice A4 its.length c4) = W5 := ⟨_, rfl⟩
  rw [hW5] at G1 F1
  obtain ⟨p0, p1, q0, q1⟩ := lay_cells G1
  have HG1 := hide G1
  have HF1 := hide F1
  have HLIT5 := hide (heap_alloc_new W5 (.cells #[.int .i64 1, .int .i64 (m : Int)] 121))
  clear hv4 G1 F1 hown4 hgr4 hat4 hg4 HLIT k0 k1 f0 f1 r4
  go_wp2_with (at_builtin; refine wpList_app_two rfl (.tmp 19) (.tmp 23) base 77 121 j0 _ 16 rfl Tryz.underlying77 hj0 hy0 hy1 hy2 rfl oo ops.length (opCells ops) (some ⟨W5.heap.size, 0, none⟩) 1 1 [.int .i64 1, .int .i64 (m : Int)] rfl rfl (by exact World.ownsRow.alloc HG1.out.o _) rfl (fun _ => ⟨W5.heap.size, 0, rfl, fun n u hu => by rw [cell_of_row _ _ (0 + n) _ _ (0, 0) HLIT5.out, Nat.zero_add]; simpa using hu⟩) (fun e => by cases e) (fun u hu => by simp at hu; rcases hu with rfl | rfl <;> rfl) (by have := HL.out.2; unfold maxLen; omega) (by have := HL.out.2; omega) (by have := HG1.out.b; simp; omega) ?_)
  intro v6 w6 hown6 hgr6 hat6
  have hg6 : W5.grownBy w6 oo.ownBlock := grown_trans (World.grownBy_alloc W5 _ _) hgr6
  obtain ⟨ops2, hops⟩ : ∃ o, o = ops ++ [((1 : Int), (m : Int))] := ⟨_, rfl⟩
  have hv6 : OwnO w6 base v6 ops2 := by rw [hops]; unfold OwnO; rw [opCells_snoc, List.length_append]; exact hown6
  obtain ⟨A6, c6, hs6, -⟩ := hv6.shape
  subst hs6
  obtain ⟨G2, F2⟩ := HG1.out.op (it := (1, (m : Int))) hg6 (by rw [← hops]; exact hv6) (hat6.imp id (fun e k hk => by rw [e] at hk; cases hk; simp))
  rw [← hops] at G2
  have HOPS := hide hops
  clear hops
  have hgl6 : g < W5.heap.size := (Array.getElem?_eq_some_iff.1 HG1.out.row).1
  have r6 : w6.heap[g]? = some (.cells #[.slice A4 its.length c4, oo] 79 (0, 0)) := (hg6.block g hgl6 (fun e => by have := (World.ownsRow.lt HG1.out.o g e.symm).1; have := HG1.out.lt; omega)).trans HG1.out.row
  have n0 : w6.cell? ⟨g, 1, none⟩ = some oo := (cell_of_row w6 g 1 _ _ (0, 0) r6).trans rfl
  have nf := frozen_of_row w6 g 1 _ _ r6
  have HG2 := hide G2
  have HF2 := hide (HF1.out.trans F2)
  clear hW5 m0 mf G2 F2 hv6 hown6 hgr6 hat6 hg6 r6 p0 p1 q0 q1
  go_wp2
  first | (go_end0; exact ⟨_, _, rfl, by rw [← HITS.out, ← HOPS.out]; exact HG2.out, HF2.out⟩) | exact ⟨_, _, rfl, by rw [← HITS.out, ← HOPS.out]; exact HG2.out, HF2.out⟩ | (go_ret; exact ⟨_, _, rfl, by rw [← HITS.out, ← HOPS.out]; exact HG2.out, HF2.out⟩)
end Go.Proofs.YtihakjcccbionaaGreatDoor

end
section
/-
  The walk of geneve.Put.
-/
namespace Go.Proofs.YtihakjcccbionaaGreatDoor
open Go.RowKit
set_option maxRecDepth 100000
set_option linter.unusedVariables false
set_option linter.unusedSimpArgs false

def numIG (N : Nat) : VItem := ⟨N, .slice none 0 0, []⟩
/-- what an option is laid of. -/
def itG (o : OpG) : List VItem := [numIG o.c.toNat, numIG o.t.toNat, numIG (o.d.length / 4), ⟨0, .slice o.a o.d.length o.k, o.d⟩]
def opG4 (o : OpG) : List (Int × Int) := [(0, 2), (0, 1), (0, 1), (1, (o.d.length : Int))]
def itsG (s f p v : Nat) (l : List OpG) : List VItem := [numIG s, numIG f, numIG p, numIG v, numIG 0] ++ l.flatMap itG
def opsG (l : List OpG) : List (Int × Int) := [(0, 1), (0, 1), (0, 2), (0, 3), (0, 1)] ++ l.flatMap opG4
theorem itsG_snoc (s f p v : Nat) (l : List OpG) (o : OpG) : itsG s f p v (l ++ [o]) = ((((itsG s f p v l ++ [numIG o.c.toNat]) ++ [numIG o.t.toNat]) ++ [numIG (o.d.length / 4)]) ++ [⟨0, .slice o.a o.d.length o.k, o.d⟩]) := by
  simp [itsG, itG]
theorem opsG_snoc (l : List OpG) (o : OpG) : opsG (l ++ [o]) = ((((opsG l ++ [(0, 2)]) ++ [(0, 1)]) ++ [(0, 1)]) ++ [(1, (o.d.length : Int))]) := by
  simp [opsG, opG4]
theorem len_itsG (s f p v : Nat) (l : List OpG) : (itsG s f p v l).length = 5 + 4 * l.length := by
  induction l with
  | nil => rfl
  | cons a l ih => simp [itsG, itG] at ih ⊢; omega
theorem len_opsG (l : List OpG) : (opsG l).length = 5 + 4 * l.length := by
  induction l with
  | nil => rfl
  | cons a l ih => simp [opsG, opG4] at ih ⊢; omega
/-- what the layout holds, in some world behind W. -/
def StG (W wr : World) (g : Nat) (its : List VItem) (ops : List (Int × Int)) : Prop := ∃ vv oo, LayG wr (g + 1) g vv oo its ops ∧ Below g W wr
theorem LayF.below {W w w' : World} {g : Nat} {vv oo vv' oo' : Value} {its : List VItem} {ops : List (Int × Int)} (h : LayF w w' g vv oo vv' oo') (hl : LayG w (g + 1) g vv oo its ops) (hb : Below g W w) : Below g W w' :=
  ⟨h.os.trans hb.os, h.tape.trans hb.tape, h.output.trans hb.output, Nat.le_trans hb.size h.size, fun k hk => by
    have hgl : g < w.heap.size := (Array.getElem?_eq_some_iff.1 hl.row).1
    exact (h.block k (by omega) (by omega) (fun e => by have := (World.ownsRow.lt hl.v k e).1; omega) (fun e => by have := (World.ownsRow.lt hl.o k e).1; omega)).trans (hb.block k hk)⟩
/-- a number is laid. -/
theorem stNum {W wr : World} {g : Nat} {its : List VItem} {ops : List (Int × Int)} (h : StG W wr g its ops) (hl : its.length ≤ 8388608) (hl2 : ops.length ≤ 8388608) (sz : Int) (N : Nat) (hN : N < 9223372036854775808) :
    Calls Tryz.prog 27 #[.pointer (some ⟨g, 0, none⟩), .int .i64 sz, .int .i64 (N : Int)] wr fun e w' => e = .returned (.tuple #[]) ∧ StG W w' g (its ++ [numIG N]) (ops ++ [(0, sz)]) ∧ (∀ k, g < k → k < wr.heap.size → (∀ (vv oo : Value), wr.heap[g]? = some (.cells #[vv, oo] 79 (0, 0)) → vv.ownBlock ≠ some k ∧ oo.ownBlock ≠ some k) → w'.heap[k]? = wr.heap[k]? ∧ ∀ (vv oo : Value), w'.heap[g]? = some (.cells #[vv, oo] 79 (0, 0)) → vv.ownBlock ≠ some k ∧ oo.ownBlock ≠ some k) := by
  obtain ⟨vv, oo, hL, hb⟩ := h
  refine (layNum_any wr (g + 1) g vv oo its ops hL hl hl2 sz N hN).mono ?_
  rintro e w' ⟨vv', oo', rfl, hL', hF⟩
  refine ⟨rfl, ⟨vv', oo', hL', hF.below hL hb⟩, fun k hgk hk hne => ?_⟩
  obtain ⟨n1, n2⟩ := hne vv oo hL.row
  refine ⟨hF.block k hk (by omega) n1 n2, fun v2 o2 hr => ?_⟩
  have e := hL'.row.symm.trans hr
  simp only [Option.some.injEq, Obj.cells.injEq, Array.mk.injEq, List.cons.injEq] at e
  obtain ⟨⟨rfl, rfl, -⟩, -⟩ := e
  constructor
  · rcases hF.nv with e2 | e2
    · rw [e2]; exact n1
    · intro e3; have := e2 k e3; omega
  · rcases hF.no with e2 | e2
    · rw [e2]; exact n2
    · intro e3; have := e2 k e3; omega
theorem stTake {W wr : World} {g : Nat} {its : List VItem} {ops : List (Int × Int)} (h : StG W wr g its ops) (hl : its.length ≤ 8388608) (hl2 : ops.length ≤ 8388608) (A : Option Addr) (m c : Nat) (d : List UInt8) :
    Calls Tryz.prog 29 #[.pointer (some ⟨g, 0, none⟩), .slice A m c] wr fun e w' => e = .returned (.tuple #[]) ∧ StG W w' g (its ++ [⟨0, .slice A m c, d⟩]) (ops ++ [(1, (m : Int))]) := by
  obtain ⟨vv, oo, hL, hb⟩ := h
  refine (layTake_any wr (g + 1) g vv oo its ops hL hl hl2 A m c d).mono ?_
  rintro e w' ⟨vv', oo', rfl, hL', hF⟩
  exact ⟨rfl, ⟨vv', oo', hL', hF.below hL hb⟩⟩
end Go.Proofs.YtihakjcccbionaaGreatDoor

end
section
/-
  The walk of geneve.Put.
-/
namespace Go.Proofs.YtihakjcccbionaaGreatDoor
open Go.RowKit
set_option maxRecDepth 100000
set_option linter.unusedVariables false
set_option linter.unusedSimpArgs false

def FreeG (w : World) (g k : Nat) : Prop := g < k ∧ k < w.heap.size ∧ ∀ (vv oo : Value), w.heap[g]? = some (.cells #[vv, oo] 79 (0, 0)) → vv.ownBlock ≠ some k ∧ oo.ownBlock ≠ some k
theorem stAlloc {W wr : World} {g : Nat} {its : List VItem} {ops : List (Int × Int)} (h : StG W wr g its ops) (o : Obj) : StG W (wr.alloc o) g its ops ∧ FreeG (wr.alloc o) g wr.heap.size := by
  obtain ⟨vv, oo, hL, hb⟩ := h
  have hgl : g < wr.heap.size := (Array.getElem?_eq_some_iff.1 hL.row).1
  have b1 : Below wr.heap.size wr (wr.alloc o) := (Below.refl _ _).alloc (Nat.le_refl _) _
  have r1 := (b1.block g hgl).trans hL.row
  refine ⟨⟨vv, oo, ⟨r1, hL.lt, World.ownsRow.alloc hL.v _, World.ownsRow.alloc hL.o _, hL.d, Nat.le_trans hL.b b1.size⟩, hb.trans (b1.mono (Nat.le_of_lt hgl))⟩, hgl, by simp, fun v2 o2 hr => ?_⟩
  have e := r1.symm.trans hr
  simp only [Option.some.injEq, Obj.cells.injEq, Array.mk.injEq, List.cons.injEq] at e
  obtain ⟨⟨rfl, rfl, -⟩, -⟩ := e
  exact ⟨fun e => by have := (World.ownsRow.lt hL.v _ e).2; omega, fun e => by have := (World.ownsRow.lt hL.o _ e).2; omega⟩
/-- a number is laid; a box beside stays. -/
theorem stNumB {W wr : World} {g : Nat} {its : List VItem} {ops : List (Int × Int)} (h : StG W wr g its ops) (hl : its.length ≤ 8388608) (hl2 : ops.length ≤ 8388608) {k : Nat} (hf : FreeG wr g k) (sz : Int) (N : Nat) (hN : N < 9223372036854775808) :
    Calls Tryz.prog 27 #[.pointer (some ⟨g, 0, none⟩), .int .i64 sz, .int .i64 (N : Int)] wr fun e w' => e = .returned (.tuple #[]) ∧ StG W w' g (its ++ [numIG N]) (ops ++ [(0, sz)]) ∧ w'.heap[k]? = wr.heap[k]? ∧ FreeG w' g k :=
  (stNum h hl hl2 sz N hN).mono fun e w' ⟨h1, h2, h3⟩ => by
    obtain ⟨h4, h5⟩ := h3 k hf.1 hf.2.1 hf.2.2
    have hk : k < w'.heap.size := by
      have e := (Array.getElem?_eq_getElem hf.2.1)
      exact (Array.getElem?_eq_some_iff.1 (h4.trans e)).1
    exact ⟨h1, h2, h4, hf.1, hk, h5⟩
theorem stBelow {W wr w' : World} {g : Nat} {its : List VItem} {ops : List (Int × Int)} (h : StG W wr g its ops) (b1 : Below wr.heap.size wr w') : StG W w' g its ops := by
  obtain ⟨vv, oo, hL, hb⟩ := h
  have hgl : g < wr.heap.size := (Array.getElem?_eq_some_iff.1 hL.row).1
  exact ⟨vv, oo, ⟨(b1.block g hgl).trans hL.row, hL.lt, World.ownsRow.kept hL.v (Below.row b1 none) (Classical.em _), World.ownsRow.kept hL.o (Below.row b1 none) (Classical.em _), hL.d, Nat.le_trans hL.b b1.size⟩, hb.trans (b1.mono (Nat.le_of_lt hgl))⟩
theorem StG.bel {W wr : World} {g : Nat} {its : List VItem} {ops : List (Int × Int)} (h : StG W wr g its ops) : Below g W wr := by obtain ⟨_, _, _, hb⟩ := h; exact hb
theorem sizeG_four (l : List OpG) : 4 * l.length ≤ sizeG l := by
  induction l with
  | nil => simp [sizeG]
  | cons a l ih => simp only [sizeG, List.length_cons]; omega
theorem upG_nat {m n : Int} (h : upG m n = true) : ∃ N : Nat, n = (N : Int) ∧ n ≤ m := by
  unfold upG at h
  simp at h
  exact ⟨n.toNat, by omega, h.2⟩
def putR (o : Bool) (p v : Int) (l : List OpG) (I : Option Addr) (k : Nat) (D : List UInt8) : List UInt8 × Nat :=
  if rightG p v l = false then ([], 1) else if 252 < sizeG l then ([], 3) else layR ((itsG (sizeG l / 4) (flG o l).toNat p.toNat v.toNat l ++ [(⟨0, .slice I D.length k, D⟩ : VItem)]).map fun it => (it.N, it.b)) (opsG l ++ [(1, (D.length : Int))])

set_option maxHeartbeats 8000000 in
theorem genPut_any (w : World) (o : Bool) (p v : Int) (A I : Option Addr) (c k : Nat) (l : List OpG) (D : List UInt8) (h : RdG w w.heap.size A l) (hl : l.length ≤ 1048576) (hs : sizeG l ≤ 4611686018427387904) (hB : ∀ x ∈ l, Byt w w.heap.size x.a x.d ∧ (x.a = none → x.k = 0)) (hI : Byt w w.heap.size I D) (hIn : I = none → k = 0) :
    Calls Tryz.prog 15 #[.agg (tunA o p v A l.length c I D.length k)] w fun e w' => ∃ A' c', e = .returned (.tuple #[.slice A' (putR o p v l I k D).1.length c', .int .i64 ((putR o p v l I k D).2 : Int)]) ∧ OwnB w' w.heap.size (.slice A' (putR o p v l I k D).1.length c') (putR o p v l I k D).1 ∧ Below w.heap.size w w' := by
  obtain ⟨W, hW, r1, hz, hbW⟩ := one_blk w (.cells (tunA o p v A l.length c I D.length k) 38)
  have hcc := hide (fun (W1 : World) (b : Below W.heap.size W W1) => tunA_cells ((b.block w.heap.size (by omega)).trans r1))
  obtain ⟨c0, c1, c2, c3, c4⟩ := hcc.out W (Below.refl _ _)
  have HRD := hide (fun (W1 : World) (b : Below w.heap.size w W1) => (h.below b).more b.size)
  have KR := hide (fun (W1 : World) (b : Below w.heap.size w W1) => rightG_any W1 o p v A I c D.length k l (HRD.out W1 b) hl)
  have KS := hide (fun (W1 : World) (b : Below w.heap.size w W1) => sizeOpts_any W1 A c l (HRD.out W1 b) hs hl)
  have KF := hide (fun (W1 : World) (b : Below w.heap.size w W1) => flags_any W1 o p v A I c D.length k l (HRD.out W1 b) hl)
  unfold tunA at KR KF
  have HB := hide hbW
  have HZ := hide hz
  have HBB := hide hB
  have HI := hide (And.intro hI hIn)
  have HRG := hide h
  obtain ⟨R, hR⟩ : ∃ R, R = putR o p v l I k D := ⟨_, rfl⟩
  rw [← hR]
  unfold putR at hR
  clear hbW hz h hB hI hIn
  cases hrg : rightG p v l
  · rw [if_pos hrg] at hR
    subst hR
    rw [hrg] at KR
    go_enter Tryz.func15, Tryz.ntmps15
    go_wp2_with fail
    refine (KR.out W HB.out).mono ?_
    rintro e w1 ⟨rfl, b1⟩
    have B1 := hide (HB.out.trans (b1.mono HB.out.size))
    clear b1
    dsimp only
    go_wp2
    go_ret2
    exact ⟨none, 0, rfl, OwnB.nil _ _, B1.out⟩
  · rw [if_neg (by rw [hrg]; simp)] at hR
    have hrg' := hrg
    unfold rightG at hrg'
    simp only [Bool.and_eq_true] at hrg'
    obtain ⟨hp, hv, hall⟩ := hrg'
    rw [hrg] at KR
    obtain ⟨S, hS⟩ : ∃ S, S = sizeG l := ⟨_, rfl⟩
    rw [← hS] at KS hR
    have HSS := hide hS
    by_cases hbig : 252 < S
    · rw [if_pos hbig] at hR
      subst hR
      have hb2 : (252 : Int) < (S : Int) := by omega
      clear hS
      go_enter Tryz.func15, Tryz.ntmps15
      go_wp2_with fail
      refine (KR.out W HB.out).mono ?_
      rintro e w1 ⟨rfl, b1⟩
      have B1 := hide (HB.out.trans (b1.mono HB.out.size))
      obtain ⟨d0, d1, d2, d3, d4⟩ := hcc.out w1 b1
      clear b1
      dsimp only
      go_wp2_with fail
      refine (KS.out w1 B1.out).mono ?_
      rintro e w2 ⟨rfl, b2⟩
      have B2 := hide (B1.out.trans (b2.mono B1.out.size))
      clear b2
      dsimp only
      go_wp2
      go_ret2
      exact ⟨none, 0, rfl, OwnB.nil _ _, B2.out⟩
    · rw [if_neg hbig] at hR
      have hl63 : l.length ≤ 63 := by have := sizeG_four l; omega
      obtain ⟨pn, hpn, hp2⟩ := upG_nat hp
      obtain ⟨vn, hvn, hv2⟩ := upG_nat hv
      subst hpn hvn
      obtain ⟨F, hF, hF2⟩ : ∃ F : Nat, flG o l = (F : Int) ∧ F ≤ 192 := by
        refine ⟨(flG o l).toNat, ?_, ?_⟩ <;> (unfold flG; cases o <;> cases critG l <;> simp)
      rw [hF] at KF hR
      simp only [Int.toNat_natCast] at hR
      obtain ⟨q, hq⟩ : ∃ q, q = S / 4 := ⟨_, rfl⟩
      rw [← hq] at hR
      have hq4 : (S : Int) / 4 = (q : Int) := by omega
      have hq4t : (S : Int).tdiv 4 = (q : Int) := by rw [Int.tdiv_eq_ediv_of_nonneg (by omega)]; exact hq4
      have hwq : IntKind.i64.wrap (q : Int) = (q : Int) := IntWalk.i64_in _ (by omega)
      have hb2 : ¬ (252 : Int) < (S : Int) := by omega
      have HRR := hide hR
      have HALL : Hid (∀ x ∈ l, okG x = true) := hide (List.all_eq_true.1 hall)
      have HN : Hid (q < 9223372036854775808 ∧ F < 9223372036854775808 ∧ pn < 9223372036854775808 ∧ vn < 9223372036854775808) := hide (by omega)
      have HL63 := hide hl63
      clear hS hR hq hF hF2 hp hv hp2 hv2 hall hrg hl63 hbig hs hl
      go_enter Tryz.func15, Tryz.ntmps15
      go_wp2_with fail
      refine (KR.out W HB.out).mono ?_
      rintro e w1 ⟨rfl, b1⟩
      have C1 := hide b1
      have B1 := hide (HB.out.trans (b1.mono HB.out.size))
      obtain ⟨d0, d1, d2, d3, d4⟩ := hcc.out w1 b1
      clear b1
      dsimp only
      go_wp2_with fail
      refine (KS.out w1 B1.out).mono ?_
      rintro e w2 ⟨rfl, b2⟩
      have C2 := hide (C1.out.trans (b2.mono C1.out.size))
      obtain ⟨g, hg⟩ : ∃ g, g = w2.heap.size := ⟨_, rfl⟩
      obtain ⟨W6, hW6⟩ : ∃ W6, w2.alloc (.cells #[.slice none 0 0, .slice none 0 0] 79) = W6 := ⟨_, rfl⟩
      have r6 : W6.heap[g]? = some (.cells #[.slice none 0 0, .slice none 0 0] 79 (0, 0)) := by rw [← hW6, hg]; exact heap_alloc_new w2 _
      have z6 : W6.heap.size = g + 1 := by rw [← hW6, hg]; simp
      have G6 : StG W6 W6 g [] [] := ⟨_, _, ⟨r6, Nat.lt_succ_self _, World.ownsRow_nil _ _ _ _, World.ownsRow_nil _ _ _ _, .inl rfl, Nat.le_of_eq z6.symm⟩, Below.refl _ _⟩
      have B6 : Below W.heap.size W W6 := by rw [← hW6]; exact C2.out.alloc C2.out.size _
      have hWg : W.heap.size ≤ g := by rw [hg]; exact C2.out.size
      have HBG := hide (fun (wr : World) (its : List VItem) (ops : List (Int × Int)) (G : StG W6 wr g its ops) => (⟨B6.trans (G.bel.mono hWg), HB.out.trans ((B6.trans (G.bel.mono hWg)).mono HB.out.size)⟩ : Below W.heap.size W wr ∧ Below w.heap.size w wr))
      have HG6 := hide G6
      clear b2 r6 z6 G6 B6 hWg
      dsimp only
      go_wp2_with fail
      rw [← hg]
      refine (stNum HG6.out (by simp) (by simp) 1 q HN.out.1).mono ?_
      rintro e w7 ⟨rfl, G7, -⟩
      have HG7 := hide G7
      obtain ⟨e0, e1, e2, e3, e4⟩ := hcc.out w7 (HBG.out _ _ _ G7).1
      clear G7 d0 d1 d2 d3 d4 hW6 hg
      dsimp only
      go_wp2_with fail
      refine (KF.out w7 (HBG.out _ _ _ HG7.out).2).mono ?_
      rintro e w8 ⟨rfl, b8⟩
      have G8 := stBelow HG7.out b8
      have HG8 := hide G8
      clear G8 b8 e0 e1 e2 e3 e4
      dsimp only
      go_wp2_with fail
      refine (stNum HG8.out (by simp) (by simp) 1 F HN.out.2.1).mono ?_
      rintro e w9 ⟨rfl, G9, -⟩
      have HG9 := hide G9
      obtain ⟨e0, e1, e2, e3, e4⟩ := hcc.out w9 (HBG.out _ _ _ G9).1
      clear G9
      dsimp only
      go_wp2_with fail
      refine (stNum HG9.out (by simp) (by simp) 2 pn HN.out.2.2.1).mono ?_
      rintro e w10 ⟨rfl, G10, -⟩
      have HG10 := hide G10
      obtain ⟨d0, d1, d2, d3, d4⟩ := hcc.out w10 (HBG.out _ _ _ G10).1
      clear G10 e0 e1 e2 e3 e4
      dsimp only
      go_wp2_with fail
      refine (stNum HG10.out (by simp) (by simp) 3 vn HN.out.2.2.2).mono ?_
      rintro e w11 ⟨rfl, G11, -⟩
      have HG11 := hide G11
      clear G11 d0 d1 d2 d3 d4
      dsimp only
      go_wp2_with fail
      refine (stNum HG11.out (by simp) (by simp) 1 0 (by decide)).mono ?_
      rintro e w12 ⟨rfl, G12, -⟩
      have HG12 : Hid (StG W6 w12 g (itsG q F pn vn (l.take 0)) (opsG (l.take 0))) := hide G12
      obtain ⟨d0, d1, d2, d3, d4⟩ := hcc.out w12 (HBG.out _ _ _ G12).1
      clear G12
      dsimp only
      go_wp2
      go_loopw [7, 32] (fun _ i wr => ∃ (j : Nat), j ≤ l.length ∧ i = .int .i64 (j : Int) ∧ Hid (StG W6 wr g (itsG q F pn vn (l.take j)) (opsG (l.take j))))
        (fun _ i _ => l.length - (intOf i).toNat)
      case atStart => exact ⟨0, by omega, rfl, HG12⟩
      case round =>
        obtain ⟨j, hj, rfl, hG⟩ := hrel
        have hjb : j ≤ 63 := by have := HL63.out; omega
        by_cases hlt : j < l.length
        · obtain ⟨bb, off, rfl, hbb, hc⟩ := HRG.out (by omega)
          obtain ⟨c0', c1', c2'⟩ := hc j hlt
          have bw := (HBG.out _ _ _ hG.out).2
          have x0 := (bw.cell (p := ⟨bb, off + j * 3, none⟩) hbb).trans c0'
          have x1 := (bw.cell (p := ⟨bb, off + j * 3 + 1, none⟩) hbb).trans c1'
          have x2 := (bw.cell (p := ⟨bb, off + j * 3 + 2, none⟩) hbb).trans c2'
          have hok := HALL.out l[j] (List.getElem_mem hlt)
          unfold okG at hok
          simp only [Bool.and_eq_true] at hok
          obtain ⟨hk1, hk2, -, hk4⟩ := hok
          have hn124 : l[j].d.length ≤ 124 := by simpa using hk4
          clear hk4
          have hsi := itsG_snoc q F pn vn (l.take j) l[j]
          have hso := opsG_snoc (l.take j) l[j]
          rw [← List.take_succ_eq_append_getElem hlt] at hsi hso
          obtain ⟨cn, hcn, hc2⟩ := upG_nat hk1
          obtain ⟨tn, htn, ht2⟩ := upG_nat hk2
          rw [hcn] at x0 hsi
          rw [htn] at x1 hsi
          simp only [Int.toNat_natCast] at hsi
          obtain ⟨d, hd⟩ : ∃ d, d = l[j].d := ⟨_, rfl⟩
          obtain ⟨oa, hoa⟩ : ∃ n, n = l[j].a := ⟨_, rfl⟩
          obtain ⟨okk, hokk⟩ : ∃ n, n = l[j].k := ⟨_, rfl⟩
          rw [← hd, ← hoa, ← hokk] at x2 hsi
          rw [← hd] at hso
          obtain ⟨n, hn⟩ : ∃ n, n = d.length := ⟨_, rfl⟩
          obtain ⟨m4, hm4⟩ : ∃ m, m = n / 4 := ⟨_, rfl⟩
          rw [← hd, ← hn] at hn124
          rw [← hn] at x2 hsi hso
          rw [← hm4] at hsi
          have e4 : (n : Int) / 4 = (m4 : Int) := by omega
          have e4t : (n : Int).tdiv 4 = (m4 : Int) := by rw [Int.tdiv_eq_ediv_of_nonneg (by omega)]; exact e4
          have hl1 : (itsG q F pn vn (l.take j)).length ≤ 300 := by rw [len_itsG, List.length_take]; omega
          have hl2 : (opsG (l.take j)).length ≤ 300 := by rw [len_opsG, List.length_take]; omega
          obtain ⟨its, hits⟩ : ∃ x, x = itsG q F pn vn (l.take j) := ⟨_, rfl⟩
          obtain ⟨ops, hops⟩ : ∃ x, x = opsG (l.take j) := ⟨_, rfl⟩
          rw [← hits] at hG hl1 hsi
          rw [← hops] at hG hl2 hso
          have HM63 : Hid (m4 ≤ 31) := hide (by omega)
          clear hn124
          have hl3 : d.length ≤ 124 ∨ True := .inr trivial
          have hw4 : IntKind.i64.wrap (m4 : Int) = (m4 : Int) ∨ True := .inr trivial
          have HSI := hide hsi
          have HSO := hide hso
          have HLL := hide (And.intro hl1 hl2)
          have HCT : Hid (cn < 9223372036854775808 ∧ tn < 9223372036854775808) := hide (by omega)
          have hj1 : (j : Int) < (l.length : Int) := by omega
          have hj0 : (0 : Int) ≤ (j : Int) := by omega
          obtain ⟨Ga, fa⟩ := stAlloc hG.out (.cells #[.int .i64 (cn : Int), .int .i64 (tn : Int), .slice oa n okk] 60)
          have ra := heap_alloc_new wr (.cells #[.int .i64 (cn : Int), .int .i64 (tn : Int), .slice oa n okk] 60)
          obtain ⟨kb, hkb⟩ : ∃ k, k = wr.heap.size := ⟨_, rfl⟩
          obtain ⟨w13, hw13⟩ : ∃ w13, wr.alloc (.cells #[.int .i64 (cn : Int), .int .i64 (tn : Int), .slice oa n okk] 60) = w13 := ⟨_, rfl⟩
          rw [hw13] at Ga fa ra
          rw [← hkb] at fa ra
          have HGa := hide Ga
          have Hfa := hide fa
          have CB := hide (fun (W1 : World) (r : W1.heap[kb]? = some (.cells #[.int .i64 (cn : Int), .int .i64 (tn : Int), .slice oa n okk] 60 (0, 0))) => (⟨(cell_of_row W1 kb 0 _ _ (0, 0) r).trans rfl, (cell_of_row W1 kb 1 _ _ (0, 0) r).trans rfl, (cell_of_row W1 kb 2 _ _ (0, 0) r).trans rfl⟩ : W1.cell? ⟨kb, 0, none⟩ = some (.int .i64 (cn : Int)) ∧ W1.cell? ⟨kb, 1, none⟩ = some (.int .i64 (tn : Int)) ∧ W1.cell? ⟨kb, 2, none⟩ = some (.slice oa n okk)))
          obtain ⟨y0, y1, y2⟩ := CB.out w13 ra
          have Hra := hide ra
          clear c0' c1' c2' hc hbb bw hk1 hk2 hsi hso hcn htn hc2 ht2 hoa hokk hm4 hits hops hl1 hl2 hl3 hw4 hG Ga fa ra hd
          go_wp2_with fail
          (try rw [← hkb])
          (try rw [← hn])
          rw [hw13]
          have HKB := hide hkb
          have HNN := hide hn
          clear hkb hn
          refine (stNumB HGa.out (by have := HLL.out.1; omega) (by have := HLL.out.2; omega) Hfa.out 2 cn HCT.out.1).mono ?_
          rintro e w14 ⟨rfl, G14, r14, f14⟩
          have Hr14 := hide (r14.trans Hra.out)
          obtain ⟨z0, z1, z2⟩ := CB.out w14 Hr14.out
          have HG14 := hide G14
          have Hf14 := hide f14
          clear G14 r14 f14 x0 x1 x2 y0 y1 y2 hw13
          dsimp only
          go_wp2_with fail
          refine (stNumB HG14.out (by have := HLL.out.1; simp; omega) (by have := HLL.out.2; simp; omega) Hf14.out 1 tn HCT.out.2).mono ?_
          rintro e w15 ⟨rfl, G15, r15, f15⟩
          have Hr15 := hide (r15.trans Hr14.out)
          obtain ⟨y0, y1, y2⟩ := CB.out w15 Hr15.out
          have HG15 := hide G15
          have Hf15 := hide f15
          clear G15 r15 f15 z0 z1 z2
          dsimp only
          go_wp2_with fail
          rw [show wrap64 (m4 : Int) = (m4 : Int) from Go.IntWalk.wrap64_in _ (by have := HM63.out; omega)]
          refine (stNumB HG15.out (by have := HLL.out.1; simp; omega) (by have := HLL.out.2; simp; omega) Hf15.out 1 m4 (by have := HM63.out; omega)).mono ?_
          rintro e w16 ⟨rfl, G16, r16, f16⟩
          have Hr16 := hide (r16.trans Hr15.out)
          obtain ⟨z0, z1, z2⟩ := CB.out w16 Hr16.out
          have HG16 := hide G16
          clear G16 r16 f16 y0 y1 y2
          dsimp only
          go_wp2_with fail
          refine (stTake HG16.out (by have := HLL.out.1; simp; omega) (by have := HLL.out.2; simp; omega) oa n okk d).mono ?_
          rintro e w17 ⟨rfl, G17⟩
          rw [← HSI.out, ← HSO.out] at G17
          have HG17 := hide G17
          clear G17 z0 z1 z2
          dsimp only
          go_wp2_with fail
          go_roundw
          case rel => exact ⟨j + 1, by omega, by go_num, HG17⟩
          case measure => simp [intOf]; omega
        · have hjl : j = l.length := by omega
          subst hjl
          rw [List.take_length] at hG
          obtain ⟨e0, e1, e2, e3, e4⟩ := hcc.out wr (HBG.out _ _ _ hG.out).1
          clear hlt
          go_wp2_with fail
          refine (stTake hG.out (by rw [len_itsG]; omega) (by rw [len_opsG]; omega) I D.length k D).mono ?_
          rintro e w13 ⟨rfl, G13⟩
          have b13 := HBG.out _ _ _ G13
          obtain ⟨vv, oo, hL, hb13⟩ := G13
          have ho2 : OwnO w13 (g + 1) oo (opsG l ++ [(1, (D.length : Int))]) := by unfold OwnO; exact hL.o
          obtain ⟨Av, cv, rfl, hrv⟩ := row_reads hL.v
          obtain ⟨Ao, co, rfl, hro, -⟩ := ho2.shape
          have g0 := (cell_of_row w13 g 0 _ _ (0, 0) hL.row).trans rfl
          have g1 := (cell_of_row w13 g 1 _ _ (0, 0) hL.row).trans rfl
          have hc : RdC w13 w13.heap.size (itsG q F pn vn l ++ [(⟨0, .slice I D.length k, D⟩ : VItem)]) := by
            intro it hit
            have hbm : ∀ x ∈ l, Byt w13 w13.heap.size x.a x.d := fun x hx => ((HBB.out x hx).1.below b13.2).more b13.2.size
            rcases List.mem_append.1 hit with hi | hi
            · unfold itsG at hi
              rcases List.mem_append.1 hi with hi | hi
              · have hi2 : ∃ n, it = numIG n := by simp at hi; rcases hi with h | h | h | h | h <;> exact ⟨_, h⟩
                obtain ⟨n, rfl⟩ := hi2
                exact ⟨none, 0, rfl, Byt.nil _ _ _, fun _ => rfl⟩
              · obtain ⟨x, hx, hi⟩ := List.mem_flatMap.1 hi
                unfold itG at hi
                simp only [List.mem_cons, List.not_mem_nil, or_false] at hi
                rcases hi with rfl | rfl | rfl | rfl
                · exact ⟨none, 0, rfl, Byt.nil _ _ _, fun _ => rfl⟩
                · exact ⟨none, 0, rfl, Byt.nil _ _ _, fun _ => rfl⟩
                · exact ⟨none, 0, rfl, Byt.nil _ _ _, fun _ => rfl⟩
                · exact ⟨_, _, rfl, hbm x hx, (HBB.out x hx).2⟩
            · rw [List.mem_singleton] at hi
              subst hi
              exact ⟨_, _, rfl, (HI.out.1.below b13.2).more b13.2.size, HI.out.2⟩
          have C := lay_any w13 Av Ao cv co _ _ hrv hc hro R HRR.out
          obtain ⟨n1, hn1⟩ : ∃ n, n = (itsG q F pn vn l ++ [(⟨0, .slice I D.length k, D⟩ : VItem)]).length := ⟨_, rfl⟩
          obtain ⟨n2, hn2⟩ : ∃ n, n = (opsG l ++ [(1, (D.length : Int))]).length := ⟨_, rfl⟩
          rw [← hn1] at g0
          rw [← hn2] at g1
          rw [← hn1, ← hn2] at C
          (try rw [← hn1] at g1)
          (try rw [← hn2] at g0)
          have HC := hide C
          have hB := hide b13.2
          clear hn1 hn2 hc e0 e1 e2 e3 e4 c0 c1 c2 c3 c4
          clear hrv hro ho2 C hL hb13 b13
          dsimp only
          go_wp2_with fail
          refine HC.out.mono ?_
          rintro e w14 ⟨A7, c7, rfl, hown7, hb7⟩
          have H7 := hide (hown7.base hB.out.size)
          have HB7 := hide (hB.out.trans (hb7.mono hB.out.size))
          clear hown7 hb7
          dsimp only
          go_wp2
          go_ret2
          exact ⟨A7, c7, rfl, H7.out, HB7.out⟩
end Go.Proofs.YtihakjcccbionaaGreatDoor

end
section
/-
  What a layout of pieces that fit lays, whole.
-/
namespace Go.Proofs.YtihakjcccbionaaGreatDoor
open Go.RowKit
set_option linter.unusedVariables false
set_option linter.unusedSimpArgs false

def zputG (z : (Nat × List UInt8) × (Int × Int)) : List UInt8 := putS z.1.1 z.1.2 z.2.1 z.2.2
/-- pieces that fit are laid one behind the other, or it is too large. -/
theorem layS_ok (zs : List ((Nat × List UInt8) × (Int × Int))) : ∀ (b : List UInt8), b.length ≤ 65535 → (∀ z ∈ zs, fitsS z.1.1 z.1.2.length z.2.1 z.2.2 = true) →
    layS zs b = if b.length + (zs.flatMap zputG).length ≤ 65535 then (b ++ zs.flatMap zputG, 0) else ([], 3) := by
  induction zs with
  | nil => intro b hb _; simp [layS]; omega
  | cons z t ih =>
    intro b hb hf
    obtain ⟨⟨N, vb⟩, kd, sz⟩ := z
    have h1 := hf _ (List.mem_cons_self ..)
    dsimp only at h1
    have hl := length_putS h1
    have hft := fun z hz => hf z (List.mem_cons_of_mem _ hz)
    have hm : (List.flatMap zputG (((N, vb), (kd, sz)) :: t)) = putS N vb kd sz ++ t.flatMap zputG := rfl
    rw [hm, List.length_append]
    unfold layS
    rw [if_pos h1, ← hl]
    by_cases hle : (b.length : Int) + ((putS N vb kd sz).length : Int) ≤ 65535
    · rw [if_pos hle, ih (b ++ putS N vb kd sz) (by rw [List.length_append]; omega) hft, List.length_append, List.append_assoc, Nat.add_assoc]
    · rw [if_neg hle, if_neg (by omega)]
theorem layR_ok (vs : List (Nat × List UInt8)) (ops : List (Int × Int)) (h4 : ops.length ≤ 4096) (hl : vs.length = ops.length) (hf : ∀ z ∈ vs.zip ops, fitsS z.1.1 z.1.2.length z.2.1 z.2.2 = true) :
    layR vs ops = if ((vs.zip ops).flatMap zputG).length ≤ 65535 then ((vs.zip ops).flatMap zputG, 0) else ([], 3) := by
  unfold layR
  rw [if_neg (by omega), if_neg (by simp [hl]), layS_ok _ [] (by simp) hf]
  simp
end Go.Proofs.YtihakjcccbionaaGreatDoor

end
section
/-
  A tunnel's bytes.
-/
namespace Go.Proofs.YtihakjcccbionaaGreatDoor
open Go.RowKit
set_option linter.unusedVariables false
set_option linter.unusedSimpArgs false

def optB (o : OpG) : List UInt8 := numBytes o.c.toNat 2 2 ++ (numBytes o.t.toNat 1 1 ++ (numBytes (o.d.length / 4) 1 1 ++ o.d))
def tunB (s f p v : Nat) (l : List OpG) (D : List UInt8) : List UInt8 := numBytes s 1 1 ++ (numBytes f 1 1 ++ (numBytes p 2 2 ++ (numBytes v 3 3 ++ (numBytes 0 1 1 ++ (l.flatMap optB ++ D)))))
def zopG (o : OpG) : List ((Nat × List UInt8) × (Int × Int)) := [((o.c.toNat, []), (0, 2)), ((o.t.toNat, []), (0, 1)), ((o.d.length / 4, []), (0, 1)), ((0, o.d), (1, (o.d.length : Int)))]
theorem len_zo (l : List OpG) : ((l.flatMap itG).map fun it => (it.N, it.b)).length = (l.flatMap opG4).length := by
  induction l with
  | nil => rfl
  | cons a l ih => simp [itG, opG4] at ih ⊢; try omega
theorem zip_zo (l : List OpG) : ((l.flatMap itG).map fun it => (it.N, it.b)).zip (l.flatMap opG4) = l.flatMap zopG := by
  induction l with
  | nil => rfl
  | cons a l ih =>
    have e1 : (a :: l).flatMap itG = itG a ++ l.flatMap itG := rfl
    have e2 : (a :: l).flatMap opG4 = opG4 a ++ l.flatMap opG4 := rfl
    have e3 : (a :: l).flatMap zopG = zopG a ++ l.flatMap zopG := rfl
    rw [e1, e2, e3, List.map_append, List.zip_append (by rfl), ih]
    rfl
theorem put_zo (l : List OpG) : (l.flatMap zopG).flatMap zputG = l.flatMap optB := by
  induction l with
  | nil => rfl
  | cons a l ih =>
    have e3 : (a :: l).flatMap zopG = zopG a ++ l.flatMap zopG := rfl
    have e4 : (a :: l).flatMap optB = optB a ++ l.flatMap optB := rfl
    rw [e3, e4, List.flatMap_append, ih]
    simp [zopG, zputG, putS, optB]
theorem zip_tun (s f p v : Nat) (l : List OpG) (I : Option Addr) (k : Nat) (D : List UInt8) :
    ((itsG s f p v l ++ [(⟨0, .slice I D.length k, D⟩ : VItem)]).map fun it => (it.N, it.b)).zip (opsG l ++ [(1, (D.length : Int))]) =
      [((s, []), (0, 1)), ((f, []), (0, 1)), ((p, []), (0, 2)), ((v, []), (0, 3)), ((0, []), (0, 1))] ++ (l.flatMap zopG ++ [((0, D), (1, (D.length : Int)))]) := by
  unfold itsG opsG
  rw [List.append_assoc, List.append_assoc, List.map_append, List.map_append, List.zip_append (by rfl), List.zip_append (len_zo l), zip_zo]
  rfl
theorem put_tun (s f p v : Nat) (l : List OpG) (I : Option Addr) (k : Nat) (D : List UInt8) :
    (((itsG s f p v l ++ [(⟨0, .slice I D.length k, D⟩ : VItem)]).map fun it => (it.N, it.b)).zip (opsG l ++ [(1, (D.length : Int))])).flatMap zputG = tunB s f p v l D := by
  rw [zip_tun, List.flatMap_append, List.flatMap_append, put_zo]
  simp [zputG, putS, tunB]
theorem fitsG_num {N k : Nat} (h : N < 256 ^ k) (h1 : 1 ≤ k) (h8 : k ≤ 8) : fitsS N 0 0 (k : Int) = true := by
  unfold fitsS
  rw [if_pos rfl]
  simp; exact ⟨⟨by omega, by omega⟩, h⟩
/-- a tunnel that can be: its bytes, or it is too large. -/
theorem putR_ok (o : Bool) (p v : Int) (l : List OpG) (I : Option Addr) (k : Nat) (D : List UInt8) (hr : rightG p v l = true) (hs : sizeG l ≤ 252) (hf : (flG o l).toNat ≤ 255) :
    putR o p v l I k D = if (tunB (sizeG l / 4) (flG o l).toNat p.toNat v.toNat l D).length ≤ 65535 then (tunB (sizeG l / 4) (flG o l).toNat p.toNat v.toNat l D, 0) else ([], 3) := by
  unfold putR
  rw [if_neg (by simp [hr]), if_neg (by omega)]
  have hL := sizeG_four l
  have hlen : ((itsG (sizeG l / 4) (flG o l).toNat p.toNat v.toNat l ++ [(⟨0, .slice I D.length k, D⟩ : VItem)]).map fun it => (it.N, it.b)).length = (opsG l ++ [(1, (D.length : Int))]).length := by
    rw [List.length_map, List.length_append, List.length_append, len_itsG, len_opsG]; rfl
  rw [layR_ok _ _ (by rw [List.length_append, len_opsG]; simp; omega) hlen ?_, put_tun]
  rw [zip_tun]
  unfold rightG at hr
  simp only [Bool.and_eq_true] at hr
  obtain ⟨hp, hv, hall⟩ := hr
  obtain ⟨pn, rfl, hp2⟩ := upG_nat hp
  obtain ⟨vn, rfl, hv2⟩ := upG_nat hv
  intro z hz
  rcases List.mem_append.1 hz with hz | hz
  · simp only [List.mem_cons, List.not_mem_nil, or_false] at hz
    rcases hz with rfl | rfl | rfl | rfl | rfl
    · exact fitsG_num (k := 1) (by dsimp only; omega) (by decide) (by decide)
    · exact fitsG_num (k := 1) (by dsimp only; omega) (by decide) (by decide)
    · exact fitsG_num (k := 2) (by simp; omega) (by decide) (by decide)
    · exact fitsG_num (k := 3) (by simp; omega) (by decide) (by decide)
    · exact fitsG_num (k := 1) (by decide) (by decide) (by decide)
  · rcases List.mem_append.1 hz with hz | hz
    · obtain ⟨x, hx, hz⟩ := List.mem_flatMap.1 hz
      have hok := List.all_eq_true.1 hall x hx
      unfold okG at hok
      simp only [Bool.and_eq_true] at hok
      obtain ⟨hk1, hk2, -, hk4⟩ := hok
      have hn : x.d.length ≤ 124 := by simpa using hk4
      obtain ⟨cn, hcn, hc2⟩ := upG_nat hk1
      obtain ⟨tn, htn, ht2⟩ := upG_nat hk2
      unfold zopG at hz
      simp only [List.mem_cons, List.not_mem_nil, or_false] at hz
      rcases hz with rfl | rfl | rfl | rfl
      · exact fitsG_num (k := 2) (by rw [hcn]; simp; omega) (by decide) (by decide)
      · exact fitsG_num (k := 1) (by rw [htn]; simp; omega) (by decide) (by decide)
      · exact fitsG_num (k := 1) (by simp; omega) (by decide) (by decide)
      · simp [fitsS]
    · rw [List.mem_singleton] at hz
      subst hz
      simp [fitsS]
end Go.Proofs.YtihakjcccbionaaGreatDoor

end
section
/-
  A tunnel in memory, whole: its cells, its options, their bytes.
-/
namespace Go.Proofs.YtihakjcccbionaaGreatDoor
open Go.RowKit
set_option maxRecDepth 100000
set_option linter.unusedVariables false
set_option linter.unusedSimpArgs false

/-- an option by what it says: its class, its type, its bytes. -/
abbrev OpD := Int × Int × List UInt8
def OpG.say (o : OpG) : OpD := (o.c, o.t, o.d)
structure TuD where
  o : Bool
  p : Int
  v : Int
  l : List OpD
  D : List UInt8
def ogC (o : OpG) : List Value := [.int .i64 o.c, .int .i64 o.t, .slice o.a o.d.length o.k]
def ogsC (l : List OpG) : List Value := l.flatMap ogC
theorem ogsC_len (l : List OpG) : (ogsC l).length = l.length * 3 := by
  induction l with
  | nil => rfl
  | cons a l ih => simp only [ogsC, List.flatMap_cons, List.length_append, List.length_cons] at ih ⊢; rw [ih]; simp [ogC]; omega
theorem ogsC_snoc (l : List OpG) (o : OpG) : ogsC (l ++ [o]) = ogsC l ++ ogC o := by simp [ogsC]
theorem ogsC_get : ∀ (l : List OpG) (i : Nat) (h : i < l.length), (ogsC l)[i * 3]? = some (.int .i64 l[i].c) ∧ (ogsC l)[i * 3 + 1]? = some (.int .i64 l[i].t) ∧ (ogsC l)[i * 3 + 2]? = some (.slice l[i].a l[i].d.length l[i].k)
  | [], i, h => by simp at h
  | o :: l, 0, h => ⟨rfl, rfl, rfl⟩
  | o :: l, i + 1, h => by
    have hs : ogsC (o :: l) = ogC o ++ ogsC l := rfl
    have hl : (ogC o).length = 3 := rfl
    rw [hs, List.getElem?_append_right (by omega), List.getElem?_append_right (by omega), List.getElem?_append_right (by omega), hl, show (i + 1) * 3 - 3 = i * 3 by omega, show (i + 1) * 3 + 1 - 3 = i * 3 + 1 by omega, show (i + 1) * 3 + 2 - 3 = i * 3 + 2 by omega]
    exact ogsC_get l i (by simpa using h)
theorem row_ogs {w : World} {base : Nat} {e : TypeId} {v : Value} {l : List OpG} {n : Nat} (h : w.ownsRow base e 3 v n (ogsC l)) (hn : n = l.length) : ∃ A c, v = .slice A l.length c ∧ l.length ≤ c ∧ RdG w w.heap.size A l := by
  subst hn
  rcases h.2 with ⟨rfl, h0⟩ | ⟨gg, cap, cur, rfl, hb, hg, hn, hm, hsz, ht⟩
  · exact ⟨none, 0, by rw [h0], by omega, fun hp => by omega⟩
  · refine ⟨some ⟨gg, 0, none⟩, cap, rfl, hn, fun _ => ⟨gg, 0, rfl, (Array.getElem?_eq_some_iff.1 hg).1, fun i hi => ?_⟩⟩
    obtain ⟨h1, h2, h3⟩ := ogsC_get l i hi
    have hc : ∀ i, i < l.length * 3 → w.cell? ⟨gg, i, none⟩ = (ogsC l)[i]? := fun i hi => World.ownsRow.cellAt (g := gg) (cap := cap) h i hi
    rw [Nat.zero_add]
    exact ⟨(hc _ (by omega)).trans h1, (hc _ (by omega)).trans h2, (hc _ (by omega)).trans h3⟩
/-- the bytes of options are there. -/
def OgB (w : World) (B : Nat) (l : List OpG) : Prop := ∀ x ∈ l, Byt w B x.a x.d ∧ (x.a = none → x.k = 0) ∧ x.d.length ≤ x.k
theorem OgB.below {w w' : World} {B : Nat} {l : List OpG} (h : OgB w B l) (hb : Below B w w') : OgB w' B l := fun x hx => ⟨(h x hx).1.below hb, (h x hx).2⟩
theorem OgB.more {w : World} {B B' : Nat} {l : List OpG} (h : OgB w B l) (hb : B ≤ B') : OgB w B' l := fun x hx => ⟨(h x hx).1.more hb, (h x hx).2⟩
theorem OgB.nil (w : World) (B : Nat) : OgB w B [] := fun x hx => by simp at hx
theorem OgB.snoc {w : World} {B : Nat} {l : List OpG} {o : OpG} (h : OgB w B l) (ho : Byt w B o.a o.d ∧ (o.a = none → o.k = 0) ∧ o.d.length ≤ o.k) : OgB w B (l ++ [o]) := fun x hx => by
  rcases List.mem_append.1 hx with h1 | h1
  · exact h x h1
  · rw [List.mem_singleton] at h1; subst h1; exact ho
/-- a tunnel's cells, and what lies behind them. -/
structure TuP (w : World) (T : TuD) (A : Option Addr) (c : Nat) (l : List OpG) (I : Option Addr) (k : Nat) : Prop where
  say : l.map OpG.say = T.l
  rd : RdG w w.heap.size A l
  ob : OgB w w.heap.size l
  le : l.length ≤ c
  i : Byt w w.heap.size I T.D
  inn : I = none → k = 0
  ik : T.D.length ≤ k
def TuG (w : World) (X : Array Value) (T : TuD) : Prop :=
  ∃ A c l I k, X = tunA T.o T.p T.v A l.length c I T.D.length k ∧ TuP w T A c l I k
theorem TuP.below {w w' : World} {T : TuD} {A I : Option Addr} {c k : Nat} {l : List OpG} (h : TuP w T A c l I k) (hb : Below w.heap.size w w') : TuP w' T A c l I k :=
  ⟨h.say, (h.rd.below hb).more hb.size, (h.ob.below hb).more hb.size, h.le, (h.i.below hb).more hb.size, h.inn, h.ik⟩
theorem TuG.below {w w' : World} {X : Array Value} {T : TuD} (h : TuG w X T) (hb : Below w.heap.size w w') : TuG w' X T := by
  obtain ⟨A, c, l, I, k, e, hp⟩ := h
  exact ⟨A, c, l, I, k, e, hp.below hb⟩
theorem TuP.len {w : World} {T : TuD} {A I : Option Addr} {c k : Nat} {l : List OpG} (h : TuP w T A c l I k) : l.length = T.l.length := by rw [← h.say, List.length_map]
theorem say_get {l : List OpG} {L : List OpD} (h : l.map OpG.say = L) {i : Nat} (hi : i < l.length) (hi2 : i < L.length) : L[i] = (l[i].c, l[i].t, l[i].d) := by
  subst h; simp [OpG.say]
def sizeD (l : List OpD) : Nat := (l.map fun o => 4 + o.2.2.length).sum
theorem sizeG_say (l : List OpG) : sizeG l = sizeD (l.map OpG.say) := by
  induction l with
  | nil => rfl
  | cons a l ih => simp only [sizeG, ih, List.map_cons, sizeD, List.sum_cons]; rfl
def critD (l : List OpD) : Bool := l.any fun o => decide (128 ≤ o.2.1)
theorem critG_say (l : List OpG) : critG l = critD (l.map OpG.say) := by
  unfold critG critD
  rw [List.any_map]
  rfl
def okdG (o : OpD) : Bool := upG 65535 o.1 && (upG 255 o.2.1 && (o.2.2.length % 4 == 0 && decide (o.2.2.length ≤ 124)))
theorem okG_say (l : List OpG) : l.all okG = (l.map OpG.say).all okdG := by
  rw [List.all_map]
  rfl
def flD (o : Bool) (l : List OpD) : Int := (if o then 128 else 0) + (if critD l then 64 else 0)
theorem flG_say (o : Bool) (l : List OpG) : flG o l = flD o (l.map OpG.say) := by unfold flG flD; rw [critG_say]
def rightD (T : TuD) : Bool := upG 65535 T.p && (upG 16777215 T.v && T.l.all okdG)
def optD (o : OpD) : List UInt8 := numBytes o.1.toNat 2 2 ++ (numBytes o.2.1.toNat 1 1 ++ (numBytes (o.2.2.length / 4) 1 1 ++ o.2.2))
theorem optB_say (l : List OpG) : l.flatMap optB = (l.map OpG.say).flatMap optD := by
  induction l with
  | nil => rfl
  | cons a l ih => simp only [List.flatMap_cons, List.map_cons, ih]; rfl
/-- a tunnel's bytes. -/
def bytD (T : TuD) : List UInt8 := numBytes (sizeD T.l / 4) 1 1 ++ (numBytes (flD T.o T.l).toNat 1 1 ++ (numBytes T.p.toNat 2 2 ++ (numBytes T.v.toNat 3 3 ++ (numBytes 0 1 1 ++ (T.l.flatMap optD ++ T.D)))))
/-- what a tunnel is laid as, or why it is not. -/
def putD (T : TuD) : List UInt8 × Nat :=
  if rightD T = false then ([], 1) else if 252 < sizeD T.l then ([], 3) else if (bytD T).length ≤ 65535 then (bytD T, 0) else ([], 3)
theorem putD_of (T : TuD) (A I : Option Addr) (c k : Nat) (l : List OpG) (h : l.map OpG.say = T.l) : putR T.o T.p T.v l I k T.D = putD T := by
  have hr : rightG T.p T.v l = rightD T := by unfold rightG rightD; rw [okG_say, h]
  have hs : sizeG l = sizeD T.l := by rw [sizeG_say, h]
  have hb : tunB (sizeG l / 4) (flG T.o l).toNat T.p.toNat T.v.toNat l T.D = bytD T := by unfold tunB bytD; rw [sizeG_say, flG_say, optB_say, h]
  unfold putD
  by_cases h1 : rightD T = false
  · rw [if_pos h1]; unfold putR; rw [hr, if_pos h1]
  · rw [if_neg h1]
    by_cases h2 : 252 < sizeD T.l
    · rw [if_pos h2]; unfold putR; rw [hr, if_neg h1, hs, if_pos h2]
    · rw [if_neg h2, putR_ok _ _ _ _ _ _ _ (by rw [hr]; simpa using h1) (by omega) (by unfold flG; cases T.o <;> cases critG l <;> simp), hb]
end Go.Proofs.YtihakjcccbionaaGreatDoor

end
section
/-
  Bytes as a tunnel, in mathematics: there and back.
-/
namespace Go.Proofs.YtihakjcccbionaaGreatDoor
open Go.RowKit
set_option linter.unusedVariables false
set_option linter.unusedSimpArgs false

def atN (b : List UInt8) (k m : Nat) : Nat := numS ((b.drop k).take m)
theorem atN_here {N m : Nat} (pre t : List UInt8) (k : Nat) (hk : k = pre.length) (h : N < 256 ^ m) : atN (pre ++ (numBytes N m m ++ t)) k m = N := by
  unfold atN
  subst hk
  rw [List.drop_left, List.take_append_of_le_length (by rw [length_numBytes]; exact Nat.le_refl _), List.take_of_length_le (by rw [length_numBytes]; exact Nat.le_refl _), numS_all h]
theorem atN_lt (b : List UInt8) (k m : Nat) : atN b k m < 256 ^ m := by
  unfold atN
  refine Nat.lt_of_lt_of_le (numS_lt _) (Nat.pow_le_pow_right (by decide) (by simp; omega))
/-- bytes as options from place k on, one behind the other; n rounds are enough. -/
def optsP (b : List UInt8) : Nat → Nat → List OpD → List OpD × Int
  | 0, _, acc => (acc, 0)
  | n + 1, k, acc =>
    if b.length ≤ k then (acc, 0)
    else if b.length < k + 4 + 4 * (atN b (k + 3) 1 % 32) then ([], 10)
    else if 32 ≤ atN b (k + 3) 1 then ([], 11)
    else optsP b n (k + 4 + 4 * (atN b (k + 3) 1 % 32)) (acc ++ [((atN b k 2 : Int), (atN b (k + 2) 1 : Int), (b.drop (k + 4)).take (4 * (atN b (k + 3) 1 % 32)))])
def zT : TuD := ⟨false, 0, 0, [], []⟩
def parD (b : List UInt8) : TuD × Int :=
  if b.length < 8 then (zT, 10)
  else if 64 ≤ atN b 0 1 then (zT, 13)
  else if atN b 1 1 % 64 ≠ 0 ∨ atN b 7 1 ≠ 0 then (zT, 11)
  else if b.length < 8 + 4 * atN b 0 1 then (zT, 10)
  else if (optsP ((b.drop 8).take (4 * atN b 0 1)) (4 * atN b 0 1) 0 []).2 ≠ 0 then (zT, (optsP ((b.drop 8).take (4 * atN b 0 1)) (4 * atN b 0 1) 0 []).2)
  else if critD (optsP ((b.drop 8).take (4 * atN b 0 1)) (4 * atN b 0 1) 0 []).1 ≠ decide (atN b 1 1 / 64 % 2 = 1) then (zT, 11)
  else (⟨decide (128 ≤ atN b 1 1), (atN b 2 2 : Int), (atN b 4 3 : Int), (optsP ((b.drop 8).take (4 * atN b 0 1)) (4 * atN b 0 1) 0 []).1, b.drop (8 + 4 * atN b 0 1)⟩, 0)
theorem okdG_inv {o : OpD} (h : okdG o = true) : ∃ c t : Nat, o.1 = (c : Int) ∧ c ≤ 65535 ∧ o.2.1 = (t : Int) ∧ t ≤ 255 ∧ ∃ q : Nat, o.2.2.length = 4 * q ∧ q ≤ 31 := by
  unfold okdG at h
  simp only [Bool.and_eq_true] at h
  obtain ⟨h1, h2, h3, h4⟩ := h
  obtain ⟨c, hc, hc2⟩ := upG_nat h1
  obtain ⟨t, ht, ht2⟩ := upG_nat h2
  have h5 : o.2.2.length % 4 = 0 := by simpa using h3
  have h6 : o.2.2.length ≤ 124 := by simpa using h4
  exact ⟨c, t, hc, by omega, ht, by omega, o.2.2.length / 4, by omega, by omega⟩
theorem optD_len {o : OpD} : (optD o).length = 4 + o.2.2.length := by
  unfold optD; simp [length_numBytes]; omega
theorem optsD_len (L : List OpD) : (L.flatMap optD).length = sizeD L := by
  induction L with
  | nil => rfl
  | cons a l ih => rw [List.flatMap_cons, List.length_append, ih, optD_len]; simp [sizeD]
theorem optsP_back (L : List OpD) : ∀ (pre : List UInt8) (n : Nat) (acc : List OpD) (k : Nat), k = pre.length → L.all okdG = true → L.length ≤ n → optsP (pre ++ L.flatMap optD) n k acc = (acc ++ L, 0) := by
  induction L with
  | nil =>
    intro pre n acc k hk _ _
    cases n with
    | zero => simp [optsP]
    | succ n => unfold optsP; rw [if_pos (by simp; omega)]; simp
  | cons o L ih =>
    intro pre n acc k hk hok hn
    rw [List.all_cons, Bool.and_eq_true] at hok
    obtain ⟨c, t, hc, hc2, ht, ht2, q, hq, hq2⟩ := okdG_inv hok.1
    obtain ⟨n, rfl⟩ : ∃ m, n = m + 1 := ⟨n - 1, by simp at hn; omega⟩
    obtain ⟨oc, ot, od⟩ := o
    simp only at hc ht hq
    subst hc ht
    have hD : optD ((c : Int), (t : Int), od) = numBytes c 2 2 ++ (numBytes t 1 1 ++ (numBytes q 1 1 ++ od)) := by
      unfold optD
      simp only [Int.toNat_natCast]
      rw [hq, Nat.mul_div_cancel_left _ (by decide)]
    obtain ⟨R, hR⟩ : ∃ R, R = L.flatMap optD := ⟨_, rfl⟩
    have hb : pre ++ ((((c : Int), (t : Int), od) : OpD) :: L).flatMap optD = pre ++ (numBytes c 2 2 ++ (numBytes t 1 1 ++ (numBytes q 1 1 ++ (od ++ R)))) := by
      rw [List.flatMap_cons, hD, hR]; simp only [List.append_assoc]
    have hb2 : pre ++ ((((c : Int), (t : Int), od) : OpD) :: L).flatMap optD = (pre ++ optD ((c : Int), (t : Int), od)) ++ L.flatMap optD := by
      rw [List.flatMap_cons, List.append_assoc]
    obtain ⟨b, hbb⟩ : ∃ b, b = pre ++ ((((c : Int), (t : Int), od) : OpD) :: L).flatMap optD := ⟨_, rfl⟩
    rw [← hbb] at hb hb2 ⊢
    have hlen : b.length = k + (4 + (4 * q + R.length)) := by rw [hb]; simp [length_numBytes]; omega
    have a0 : atN b k 2 = c := by rw [hb]; exact atN_here pre _ k hk (by omega)
    have a1 : atN b (k + 2) 1 = t := by
      rw [hb, ← List.append_assoc]; exact atN_here _ _ _ (by simp [length_numBytes]; omega) (by omega)
    have a2 : atN b (k + 3) 1 = q := by
      rw [hb, ← List.append_assoc, ← List.append_assoc]; exact atN_here _ _ _ (by simp [length_numBytes]; omega) (by omega)
    have hq32 : q % 32 = q := by omega
    have a3 : (b.drop (k + 4)).take (4 * q) = od := by
      rw [hb, ← List.append_assoc, ← List.append_assoc, ← List.append_assoc, List.drop_left' (by simp [length_numBytes]; omega), List.take_left' hq]
    unfold optsP
    rw [a2, hq32, if_neg (by omega), if_neg (by omega), if_neg (by omega), a0, a1, a3, hb2]
    rw [ih _ n _ (k + 4 + 4 * q) (by rw [List.length_append, optD_len]; simp only []; omega) hok.2 (by simp at hn; omega)]
    simp
theorem sizeD_four {L : List OpD} (h : L.all okdG = true) : sizeD L % 4 = 0 := by
  induction L with
  | nil => rfl
  | cons a l ih =>
    rw [List.all_cons, Bool.and_eq_true] at h
    obtain ⟨c, t, hc, hc2, ht, ht2, q, hq, hq2⟩ := okdG_inv h.1
    have := ih h.2
    simp only [sizeD, List.map_cons, List.sum_cons] at this ⊢
    omega
theorem len_sizeD (L : List OpD) : 4 * L.length ≤ sizeD L := by
  induction L with
  | nil => simp [sizeD]
  | cons a l ih => simp only [sizeD, List.map_cons, List.sum_cons, List.length_cons] at ih ⊢; omega
theorem flD_cases (o : Bool) (L : List OpD) : ∃ F : Nat, flD o L = (F : Int) ∧ F < 256 ∧ F % 64 = 0 ∧ decide (128 ≤ F) = o ∧ decide (F / 64 % 2 = 1) = critD L := by
  unfold flD
  cases o <;> cases critD L
  · exact ⟨0, by simp⟩
  · exact ⟨64, by simp⟩
  · exact ⟨128, by simp⟩
  · exact ⟨192, by simp⟩
theorem parD_byt {T : TuD} (hr : rightD T = true) (hs : sizeD T.l ≤ 252) : parD (bytD T) = (T, 0) := by
  unfold rightD at hr
  simp only [Bool.and_eq_true] at hr
  obtain ⟨hp, hv, hall⟩ := hr
  obtain ⟨o, p, v, L, D⟩ := T
  simp only at hp hv hall hs
  obtain ⟨pn, rfl, hp2⟩ := upG_nat hp
  obtain ⟨vn, rfl, hv2⟩ := upG_nat hv
  have h4 := sizeD_four hall
  obtain ⟨S, hS⟩ : ∃ S, sizeD L = 4 * S := ⟨sizeD L / 4, by omega⟩
  obtain ⟨F, hF, hF2, hF3, hF4, hF5⟩ := flD_cases o L
  obtain ⟨R, hR⟩ : ∃ R, R = L.flatMap optD := ⟨_, rfl⟩
  have hRl : R.length = 4 * S := by rw [hR, optsD_len, hS]
  have hb : bytD ⟨o, (pn : Int), (vn : Int), L, D⟩ = numBytes S 1 1 ++ (numBytes F 1 1 ++ (numBytes pn 2 2 ++ (numBytes vn 3 3 ++ (numBytes 0 1 1 ++ (R ++ D))))) := by
    unfold bytD
    simp only [hF, Int.toNat_natCast]
    rw [hS, Nat.mul_div_cancel_left _ (by decide), hR]
  obtain ⟨b, hbb⟩ : ∃ b, b = bytD ⟨o, (pn : Int), (vn : Int), L, D⟩ := ⟨_, rfl⟩
  rw [← hbb] at hb ⊢
  have hlen : b.length = 8 + (4 * S + D.length) := by rw [hb]; simp [length_numBytes]; omega
  have a0 : atN b 0 1 = S := by rw [hb]; exact atN_here [] _ 0 rfl (by omega)
  have a1 : atN b 1 1 = F := by rw [hb]; exact atN_here _ _ 1 (by simp [length_numBytes]) (by omega)
  have a2 : atN b 2 2 = pn := by rw [hb, ← List.append_assoc]; exact atN_here _ _ 2 (by simp [length_numBytes]) (by omega)
  have a3 : atN b 4 3 = vn := by rw [hb, ← List.append_assoc, ← List.append_assoc]; exact atN_here _ _ 4 (by simp [length_numBytes]) (by omega)
  have a4 : atN b 7 1 = 0 := by rw [hb, ← List.append_assoc, ← List.append_assoc, ← List.append_assoc]; exact atN_here _ _ 7 (by simp [length_numBytes]) (by decide)
  have hd : b.drop 8 = R ++ D := by rw [hb, ← List.append_assoc, ← List.append_assoc, ← List.append_assoc, ← List.append_assoc]; exact List.drop_left' (by simp [length_numBytes])
  have hd2 : b.drop (8 + 4 * S) = D := by rw [← List.drop_drop, hd]; exact List.drop_left' hRl
  have ht : (b.drop 8).take (4 * S) = R := by rw [hd]; exact List.take_left' hRl
  have hop : optsP R (4 * S) 0 [] = (L, 0) := by
    have := optsP_back L [] (4 * S) [] 0 rfl hall (by have := len_sizeD L; omega)
    rw [List.nil_append, List.nil_append, ← hR] at this
    exact this
  unfold parD
  rw [a0, a1, a4, ht, hop, a2, a3, hd2, if_neg (by omega), if_neg (by omega), if_neg (by omega), if_neg (by omega), if_neg (by simp), if_neg (by rw [hF5]; simp), hF4]
end Go.Proofs.YtihakjcccbionaaGreatDoor

end
