/-
  The words of geneve's options and tunnels; the walks of upTo, right, sizeOpts, critical, flags.
-/
import Derived.Test.YtdlilokmfekndaaLent
namespace Go.Proofs.Ytdlilokmfekndaa
open Go.RowKit
set_option maxRecDepth 100000
set_option linter.unusedVariables false
set_option linter.unusedSimpArgs false

/-- an option: its numbers, its slice, the bytes that it holds. -/
structure OpG where
  c : Int
  t : Int
  a : Option Addr
  k : Nat
  d : List UInt8
/-- the slice that begins at A reads, below block B, as these options. -/
def RdG (w : World) (B : Nat) (A : Option Addr) (l : List OpG) : Prop :=
  0 < l.length → ∃ b off, A = some ⟨b, off, none⟩ ∧ b < B ∧ ∀ i (h : i < l.length), w.cell? ⟨b, off + i * 3, none⟩ = some (.int .i64 l[i].c) ∧ w.cell? ⟨b, off + i * 3 + 1, none⟩ = some (.int .i64 l[i].t) ∧ w.cell? ⟨b, off + i * 3 + 2, none⟩ = some (.slice l[i].a l[i].d.length l[i].k)
theorem RdG.below {w w' : World} {B : Nat} {A : Option Addr} {l : List OpG} (h : RdG w B A l) (hb : Below B w w') : RdG w' B A l := fun h0 => by
  obtain ⟨b, off, e, hlt, hc⟩ := h h0
  exact ⟨b, off, e, hlt, fun i hi => ⟨(hb.cell (p := ⟨b, off + i * 3, none⟩) hlt).trans (hc i hi).1, (hb.cell (p := ⟨b, off + i * 3 + 1, none⟩) hlt).trans (hc i hi).2.1, (hb.cell (p := ⟨b, off + i * 3 + 2, none⟩) hlt).trans (hc i hi).2.2⟩⟩
theorem RdG.more {w : World} {B B' : Nat} {A : Option Addr} {l : List OpG} (h : RdG w B A l) (hB : B ≤ B') : RdG w B' A l := fun h0 => by
  obtain ⟨b, off, e, hlt, hc⟩ := h h0
  exact ⟨b, off, e, Nat.lt_of_lt_of_le hlt hB, hc⟩
def upG (m n : Int) : Bool := decide (0 ≤ n) && decide (n ≤ m)
def okG (o : OpG) : Bool := upG 65535 o.c && (upG 255 o.t && (o.d.length % 4 == 0 && decide (o.d.length ≤ 124)))
def sizeG : List OpG → Nat
  | [] => 0
  | o :: t => (4 + o.d.length) + sizeG t
def critG (l : List OpG) : Bool := l.any fun o => decide (128 ≤ o.t)
theorem sizeG_snoc (l : List OpG) (o : OpG) : sizeG (l ++ [o]) = sizeG l + (4 + o.d.length) := by
  induction l with
  | nil => simp [sizeG]
  | cons a l ih => simp only [List.cons_append, sizeG, ih]; omega
theorem upG_any (m n : Int) (w : World) : Calls Try.prog 61 #[.int .i64 m, .int .i64 n] w fun e w' => e = .returned (.bool (upG m n)) ∧ w = w' := by
  by_cases h1 : 0 ≤ n
  · by_cases h2 : n ≤ m
    · go_enter Try.func61, Try.ntmps61
      go_wp2
      go_ret
      exact ⟨by simp [upG, h1, h2], rfl⟩
    · go_enter Try.func61, Try.ntmps61
      go_wp2
      go_ret
      exact ⟨by simp [upG, h1, h2], rfl⟩
  · go_enter Try.func61, Try.ntmps61
    go_wp2
    go_ret
    exact ⟨by simp [upG]; omega, rfl⟩
theorem sizeG_take {l : List OpG} {j : Nat} (h : j < l.length) : sizeG (l.take (j + 1)) = sizeG (l.take j) + (4 + l[j].d.length) := by
  rw [List.take_succ_eq_append_getElem h, sizeG_snoc]
theorem sizeG_le (l : List OpG) (j : Nat) : sizeG (l.take j) ≤ sizeG l := by
  induction l generalizing j with
  | nil => simp
  | cons a l ih =>
    cases j with
    | zero => simp [sizeG]
    | succ j => simp only [List.take_succ_cons, sizeG]; have := ih j; omega
set_option maxHeartbeats 2000000 in
theorem sizeOpts_any (w : World) (A : Option Addr) (c : Nat) (l : List OpG) (h : RdG w w.heap.size A l) (hs : sizeG l ≤ 4611686018427387904) (hl : l.length ≤ 1048576) :
    Calls Try.prog 38 #[.slice A l.length c] w fun e w' => e = .returned (.int .i64 (sizeG l : Nat)) ∧ Below w.heap.size w w' := by
  have HL := hide hl
  have HS := hide hs
  have HR := hide h
  clear hl hs h
  go_enter Try.func38, Try.ntmps38
  go_wp2
  go_loopw [3, 5, 8] (fun v _ i wr => ∃ (j : Nat), j ≤ l.length ∧ i = .int .i64 (j : Int) ∧ v = .int .i64 ((sizeG (l.take j) : Nat) : Int) ∧ Hid (Below w.heap.size w wr))
    (fun _ _ i _ => l.length - (intOf i).toNat)
  case atStart => exact ⟨0, by omega, rfl, rfl, hide (Below.refl _ _)⟩
  case round =>
    obtain ⟨j, hj, rfl, rfl, hb⟩ := hrel
    by_cases hlt : j < l.length
    · obtain ⟨bb, off, rfl, hbb, hc⟩ := HR.out (by omega)
      obtain ⟨c0, c1, c2⟩ := hc j hlt
      have d0 := (hb.out.cell (p := ⟨bb, off + j * 3, none⟩) hbb).trans c0
      have d1 := (hb.out.cell (p := ⟨bb, off + j * 3 + 1, none⟩) hbb).trans c1
      have d2 := (hb.out.cell (p := ⟨bb, off + j * 3 + 2, none⟩) hbb).trans c2
      have hst := sizeG_take hlt
      have hsl := sizeG_le l (j + 1)
      obtain ⟨n, hn⟩ : ∃ n, n = l[j].d.length := ⟨_, rfl⟩
      obtain ⟨S, hS⟩ : ∃ S, S = sizeG (l.take j) := ⟨_, rfl⟩
      obtain ⟨oc, hoc⟩ : ∃ n, n = l[j].c := ⟨_, rfl⟩
      obtain ⟨ot, hot⟩ : ∃ n, n = l[j].t := ⟨_, rfl⟩
      obtain ⟨oa, hoa⟩ : ∃ n, n = l[j].a := ⟨_, rfl⟩
      obtain ⟨ok, hok⟩ : ∃ n, n = l[j].k := ⟨_, rfl⟩
      rw [← hoc] at d0
      rw [← hot] at d1
      rw [← hn, ← hoa, ← hok] at d2
      rw [← hn, ← hS] at hst
      rw [← hS]
      have HST := hide hst
      have hj1 : (j : Int) < (l.length : Int) := by omega
      have hj0 : (0 : Int) ≤ (j : Int) := by omega
      have hjb : j < 1048576 := by have := HL.out; omega
      have w1 : IntKind.i64.wrap (4 + (n : Int)) = 4 + (n : Int) := IntWalk.i64_in _ (by have := HS.out; omega)
      have w2 : IntKind.i64.wrap ((S : Int) + (4 + (n : Int))) = (S : Int) + (4 + (n : Int)) := IntWalk.i64_in _ (by have := HS.out; omega)
      have hb2 : Hid (Below w.heap.size w (wr.alloc (.cells #[.int .i64 oc, .int .i64 ot, .slice oa n ok] 68))) := hide (hb.out.alloc hb.out.size _)
      clear c0 c1 c2 hc hbb hn hS hoc hot hoa hok hst hsl hb
      go_wp2
      go_roundw
      case rel => exact ⟨j + 1, by omega, by go_num, by rw [HST.out]; exact congrArg (Value.int IntKind.i64) (by omega), hb2⟩
      case measure => simp [intOf]; omega
    · have hjl : j = l.length := by omega
      subst hjl
      rw [List.take_length]
      clear hlt
      go_wp2
      go_ret
      exact ⟨rfl, hb.out⟩
theorem critG_take {l : List OpG} {j : Nat} (h : j < l.length) : critG (l.take (j + 1)) = (critG (l.take j) || decide (128 ≤ l[j].t)) := by
  unfold critG
  rw [List.take_succ_eq_append_getElem h, List.any_append, List.any_cons, List.any_nil, Bool.or_false]
theorem critG_at {l : List OpG} {j : Nat} (h : j < l.length) (ht : 128 ≤ l[j].t) : critG l = true := by
  unfold critG
  rw [List.any_eq_true]
  exact ⟨l[j], List.getElem_mem h, by simpa using ht⟩
set_option maxHeartbeats 2000000 in
theorem critical_any (w : World) (A : Option Addr) (c : Nat) (l : List OpG) (h : RdG w w.heap.size A l) (hl : l.length ≤ 1048576) :
    Calls Try.prog 28 #[.slice A l.length c] w fun e w' => e = .returned (.bool (critG l)) ∧ Below w.heap.size w w' := by
  have HL := hide hl
  have HR := hide h
  clear hl h
  go_enter Try.func28, Try.ntmps28
  go_wp2
  go_loopw [4, 7] (fun _ i wr => ∃ (j : Nat), j ≤ l.length ∧ i = .int .i64 (j : Int) ∧ Hid (critG (l.take j) = false) ∧ Hid (Below w.heap.size w wr))
    (fun _ i _ => l.length - (intOf i).toNat)
  case atStart => exact ⟨0, by omega, rfl, hide rfl, hide (Below.refl _ _)⟩
  case round =>
    obtain ⟨j, hj, rfl, hcr, hb⟩ := hrel
    by_cases hlt : j < l.length
    · obtain ⟨bb, off, rfl, hbb, hc⟩ := HR.out (by omega)
      obtain ⟨c0, c1, c2⟩ := hc j hlt
      have d0 := (hb.out.cell (p := ⟨bb, off + j * 3, none⟩) hbb).trans c0
      have d1 := (hb.out.cell (p := ⟨bb, off + j * 3 + 1, none⟩) hbb).trans c1
      have d2 := (hb.out.cell (p := ⟨bb, off + j * 3 + 2, none⟩) hbb).trans c2
      have hct := critG_take hlt
      rw [hcr.out, Bool.false_or] at hct
      have hat := hide (fun ht : 128 ≤ l[j].t => critG_at hlt ht)
      obtain ⟨n, hn⟩ : ∃ n, n = l[j].d.length := ⟨_, rfl⟩
      obtain ⟨oc, hoc⟩ : ∃ n, n = l[j].c := ⟨_, rfl⟩
      obtain ⟨ot, hot⟩ : ∃ n, n = l[j].t := ⟨_, rfl⟩
      obtain ⟨oa, hoa⟩ : ∃ n, n = l[j].a := ⟨_, rfl⟩
      obtain ⟨ok, hok⟩ : ∃ n, n = l[j].k := ⟨_, rfl⟩
      rw [← hoc] at d0
      rw [← hot] at d1 hct hat
      rw [← hn, ← hoa, ← hok] at d2
      have HCT := hide hct
      have hj1 : (j : Int) < (l.length : Int) := by omega
      have hj0 : (0 : Int) ≤ (j : Int) := by omega
      have hjb : j < 1048576 := by have := HL.out; omega
      have hb2 : Hid (Below w.heap.size w (wr.alloc (.cells #[.int .i64 oc, .int .i64 ot, .slice oa n ok] 68))) := hide (hb.out.alloc hb.out.size _)
      clear c0 c1 c2 hc hbb hn hoc hot hoa hok hct hb hcr
      by_cases h128 : 128 ≤ ot
      · have hf := hide (hat.out h128)
        go_wp2
        go_ret
        exact ⟨by rw [hf.out]; rfl, hb2.out⟩
      · have hf : Hid (critG (l.take (j + 1)) = false) := hide (by rw [HCT.out]; simpa using h128)
        clear hat
        go_wp2
        go_roundw
        case rel => exact ⟨j + 1, by omega, by go_num, hf, hb2⟩
        case measure => simp [intOf]; omega
    · have hjl : j = l.length := by omega
      subst hjl
      rw [List.take_length] at hcr
      clear hlt
      go_wp2
      go_ret
      exact ⟨by rw [hcr.out]; rfl, hb.out⟩

theorem one_blk (w : World) (o : Obj) : ∃ W, w.alloc o = W ∧ W.heap[w.heap.size]? = some o ∧ W.heap.size = w.heap.size + 1 ∧ Below w.heap.size w W :=
  ⟨_, rfl, heap_alloc_new w o, by simp, (Below.refl _ _).alloc (Nat.le_refl _) _⟩
/-- a tunnel's cells. -/
def tunA (o : Bool) (p v : Int) (A : Option Addr) (n c : Nat) (I : Option Addr) (m k : Nat) : Array Value := #[.bool o, .int .i64 p, .int .i64 v, .slice A n c, .slice I m k]
theorem tunA_cells {w : World} {g : Nat} {o : Bool} {p v : Int} {A I : Option Addr} {n c m k : Nat} {ty : TypeId} (hg : w.heap[g]? = some (.cells (tunA o p v A n c I m k) ty (0, 0))) :
    w.cell? ⟨g, 0, none⟩ = some (.bool o) ∧ w.cell? ⟨g, 1, none⟩ = some (.int .i64 p) ∧ w.cell? ⟨g, 2, none⟩ = some (.int .i64 v) ∧ w.cell? ⟨g, 3, none⟩ = some (.slice A n c) ∧ w.cell? ⟨g, 4, none⟩ = some (.slice I m k) := by
  have h : ∀ j, w.cell? ⟨g, j, none⟩ = (tunA o p v A n c I m k)[j]? := fun j => cell_of_row w g j _ ty (0, 0) hg
  refine ⟨?_, ?_, ?_, ?_, ?_⟩ <;> rw [h] <;> rfl
def flG (o : Bool) (l : List OpG) : Int := (if o then 128 else 0) + (if critG l then 64 else 0)
set_option maxHeartbeats 2000000 in
theorem flags_any (w : World) (o : Bool) (p v : Int) (A I : Option Addr) (c m k : Nat) (l : List OpG) (h : RdG w w.heap.size A l) (hl : l.length ≤ 1048576) :
    Calls Try.prog 40 #[.agg (tunA o p v A l.length c I m k)] w fun e w' => e = .returned (.int .i64 (flG o l)) ∧ Below w.heap.size w w' := by
  obtain ⟨W, hW, r1, hz, hbW⟩ := one_blk w (.cells (tunA o p v A l.length c I m k) 31)
  obtain ⟨c0, c1, c2, c3, c4⟩ := tunA_cells r1
  have KC := hide (critical_any W A c l ((h.below hbW).more hbW.size) hl)
  obtain ⟨cr, hcr⟩ : ∃ b, b = critG l := ⟨_, rfl⟩
  rw [← hcr] at KC
  have hF : flG o l = (if o then 128 else 0) + (if cr then 64 else 0) := by rw [hcr]; rfl
  rw [hF]
  have HB := hide hbW
  clear hcr hF hbW h hl hz
  cases o <;> cases cr
  all_goals (
    go_enter Try.func40, Try.ntmps40
    go_wp2_with fail
    refine KC.out.mono ?_
    rintro e w1 ⟨rfl, b1⟩
    have B1 := hide (HB.out.trans (b1.mono HB.out.size))
    clear b1
    dsimp only
    go_wp2
    go_ret
    exact ⟨rfl, B1.out⟩)
def rightG (p v : Int) (l : List OpG) : Bool := upG 65535 p && (upG 16777215 v && l.all okG)
theorem all_bad {l : List OpG} {j : Nat} (h : j < l.length) (hb : okG l[j] = false) : l.all okG = false := by
  rw [List.all_eq_false]
  exact ⟨l[j], List.getElem_mem h, by simp [hb]⟩
set_option maxHeartbeats 4000000 in
theorem rightG_any (w : World) (o : Bool) (p v : Int) (A I : Option Addr) (c m k : Nat) (l : List OpG) (h : RdG w w.heap.size A l) (hl : l.length ≤ 1048576) :
    Calls Try.prog 37 #[.agg (tunA o p v A l.length c I m k)] w fun e w' => e = .returned (.bool (rightG p v l)) ∧ Below w.heap.size w w' := by
  obtain ⟨W, hW, r1, hz, hbW⟩ := one_blk w (.cells (tunA o p v A l.length c I m k) 31)
  obtain ⟨c0, c1, c2, c3, c4⟩ := tunA_cells r1
  have KP := hide (upG_any 65535 p)
  have KV := hide (upG_any 16777215 v)
  obtain ⟨up, hup⟩ : ∃ b, b = upG 65535 p := ⟨_, rfl⟩
  obtain ⟨uv, huv⟩ : ∃ b, b = upG 16777215 v := ⟨_, rfl⟩
  rw [← hup] at KP
  rw [← huv] at KV
  have hF : rightG p v l = (up && (uv && l.all okG)) := by rw [hup, huv]; rfl
  rw [hF]
  have HB := hide hbW
  have HR := hide ((h.below hbW).more hbW.size)
  have HL := hide hl
  clear hup huv hF hbW h hl hz
  have key : up = false ∨ (up = true ∧ uv = false) ∨ (up = true ∧ uv = true) := by cases up <;> cases uv <;> simp
  rcases key with rfl | ⟨rfl, rfl⟩ | ⟨rfl, rfl⟩
  · go_enter Try.func37, Try.ntmps37
    go_wp2_with (go_at_call 61; (with_reducible refine (KP.out _).mono ?_); rintro e w1 ⟨rfl, rfl⟩)
    go_ret
    exact ⟨rfl, HB.out⟩
  · go_enter Try.func37, Try.ntmps37
    go_wp2_with (first
      | (go_at_call 61; (with_reducible refine (KP.out _).mono ?_); rintro e w1 ⟨rfl, rfl⟩)
      | (go_at_call 61; (with_reducible refine (KV.out _).mono ?_); rintro e w1 ⟨rfl, rfl⟩)
      | fail)
    go_ret
    exact ⟨rfl, HB.out⟩
  · go_enter Try.func37, Try.ntmps37
    go_wp2_with (first
      | (go_at_call 61; (with_reducible refine (KP.out _).mono ?_); rintro e w1 ⟨rfl, rfl⟩)
      | (go_at_call 61; (with_reducible refine (KV.out _).mono ?_); rintro e w1 ⟨rfl, rfl⟩)
      | fail)
    go_loopw [4, 18] (fun _ i wr => ∃ (j : Nat), j ≤ l.length ∧ i = .int .i64 (j : Int) ∧ Hid ((l.take j).all okG = true) ∧ Hid (Below W.heap.size W wr))
      (fun _ i _ => l.length - (intOf i).toNat)
    case atStart => exact ⟨0, by omega, rfl, hide rfl, hide (Below.refl _ _)⟩
    case round =>
      obtain ⟨j, hj, rfl, hcr, hb⟩ := hrel
      by_cases hlt : j < l.length
      · obtain ⟨bb, off, rfl, hbb, hc⟩ := HR.out (by omega)
        obtain ⟨c0', c1', c2'⟩ := hc j hlt
        have d0 := (hb.out.cell (p := ⟨bb, off + j * 3, none⟩) hbb).trans c0'
        have d1 := (hb.out.cell (p := ⟨bb, off + j * 3 + 1, none⟩) hbb).trans c1'
        have d2 := (hb.out.cell (p := ⟨bb, off + j * 3 + 2, none⟩) hbb).trans c2'
        have hat := hide (fun hf : okG l[j] = false => all_bad hlt hf)
        have hon : Hid (okG l[j] = true → (l.take (j + 1)).all okG = true) := hide (fun hf => by
          rw [List.take_succ_eq_append_getElem hlt, List.all_append, hcr.out, List.all_cons, hf]; rfl)
        have hok : okG l[j] = (upG 65535 l[j].c && (upG 255 l[j].t && (l[j].d.length % 4 == 0 && decide (l[j].d.length ≤ 124)))) := rfl
        obtain ⟨K, hK⟩ : ∃ b, b = okG l[j] := ⟨_, rfl⟩
        rw [← hK] at hat hon hok
        obtain ⟨n, hn⟩ : ∃ n, n = l[j].d.length := ⟨_, rfl⟩
        obtain ⟨oc, hoc⟩ : ∃ n, n = l[j].c := ⟨_, rfl⟩
        obtain ⟨ot, hot⟩ : ∃ n, n = l[j].t := ⟨_, rfl⟩
        obtain ⟨oa, hoa⟩ : ∃ n, n = l[j].a := ⟨_, rfl⟩
        obtain ⟨okk, hokk⟩ : ∃ n, n = l[j].k := ⟨_, rfl⟩
        rw [← hn, ← hoc, ← hot] at hok
        rw [← hoc] at d0
        rw [← hot] at d1
        rw [← hn, ← hoa, ← hokk] at d2
        have K1 := hide (upG_any 65535 oc)
        have K2 := hide (upG_any 255 ot)
        obtain ⟨u1, hu1⟩ : ∃ b, b = upG 65535 oc := ⟨_, rfl⟩
        obtain ⟨u2, hu2⟩ : ∃ b, b = upG 255 ot := ⟨_, rfl⟩
        rw [← hu1] at K1 hok
        rw [← hu2] at K2 hok
        have hj1 : (j : Int) < (l.length : Int) := by omega
        have hj0 : (0 : Int) ≤ (j : Int) := by omega
        have hjb : j < 1048576 := by have := HL.out; omega
        have hb2 : Hid (Below W.heap.size W (wr.alloc (.cells #[.int .i64 oc, .int .i64 ot, .slice oa n okk] 68))) := hide (hb.out.alloc hb.out.size _)
        have kk : (u1 = false ∧ K = false) ∨ (u1 = true ∧ u2 = false ∧ K = false) ∨ (u1 = true ∧ u2 = true ∧ ((n : Int) % 4 != 0) = true ∧ K = false) ∨ (u1 = true ∧ u2 = true ∧ ((n : Int) % 4 != 0) = false ∧ (124 : Int) < (n : Int) ∧ K = false) ∨ (u1 = true ∧ u2 = true ∧ ((n : Int) % 4 != 0) = false ∧ ¬ (124 : Int) < (n : Int) ∧ K = true) := by
          have n4 : ((n : Int) % 4 != 0) = !(n % 4 == 0) := by
            rw [Bool.eq_iff_iff]; simp; omega
          rw [n4, hok]
          by_cases h4 : n % 4 = 0 <;> by_cases h124 : n ≤ 124 <;> cases u1 <;> cases u2 <;> simp [h4, h124] <;> omega
        clear c0' c1' c2' hc hbb hn hoc hot hoa hokk hok hb hcr hK hu1 hu2
        rcases kk with ⟨rfl, rfl⟩ | ⟨rfl, rfl, rfl⟩ | ⟨rfl, rfl, q1, rfl⟩ | ⟨rfl, rfl, q1, q2, rfl⟩ | ⟨rfl, rfl, q1, q2, rfl⟩
        rotate_right
        · have hf := hide (hon.out rfl)
          clear hat hon
          go_wp2_with (first
            | (go_at_call 61; (with_reducible refine (K1.out _).mono ?_); rintro e w1 ⟨rfl, rfl⟩)
            | (go_at_call 61; (with_reducible refine (K2.out _).mono ?_); rintro e w1 ⟨rfl, rfl⟩)
            | fail)
          go_roundw
          case rel => exact ⟨j + 1, by omega, by go_num, hf, hb2⟩
          case measure => simp [intOf]; omega
        all_goals (
          have hf := hide (hat.out rfl)
          clear hat hon
          go_wp2_with (first
            | (go_at_call 61; (with_reducible refine (K1.out _).mono ?_); rintro e w1 ⟨rfl, rfl⟩)
            | (go_at_call 61; (with_reducible refine (K2.out _).mono ?_); rintro e w1 ⟨rfl, rfl⟩)
            | fail)
          go_ret
          exact ⟨by rw [hf.out]; rfl, HB.out.trans (hb2.out.mono HB.out.size)⟩)
      · have hjl : j = l.length := by omega
        subst hjl
        rw [List.take_length] at hcr
        clear hlt
        go_wp2
        go_ret
        exact ⟨by rw [hcr.out]; rfl, HB.out.trans (hb.out.mono HB.out.size)⟩
end Go.Proofs.Ytdlilokmfekndaa
