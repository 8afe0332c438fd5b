/-
  The document's queue: in which order news are told.
-/
import Derived.Test.YtajpibopknpmmaaYc
import Derived.Laws.MakeOwn
namespace Go.Proofs.Ytajpibopknpmmaa
open Go.RowKit
set_option maxRecDepth 100000
set_option linter.unusedVariables false
set_option linter.unusedSimpArgs false
attribute [local go_sem ↓] exec_span exec_put exec_build heap_alloc_new heap_old
attribute [local go_sem] spanQ_ptr spanC_some heap_of_drew heap_of_drewN putAt_ptr putOk_ptr oldOk_some World.setRow_alloc_new rs_ri

theorem info_ri3 : (Try.prog.info? 65).map (fun i => (i.zero, i.size, i.bytes)) = some (some (.agg #[.int .i64 0, .slice none 0 0, .int .i64 0]), 3, 40) := by kernel_rfl
theorem make_ri (w : World) (n : Nat) (h : n ≤ 4096) : ∃ M : Array Value, M.size = n * 3 ∧
    (Instr.makeSlice 47 (.int .i64 (n : Int)) (.int .i64 (n : Int))).run Try.prog w = .ok (.slice (some ⟨w.heap.size, 0, none⟩) n n) (w.alloc (.cells M 65)) := by
  obtain ⟨i, hi, hz, hs, hb⟩ := info_parts info_ri3
  have := run_make (P := Try.prog) w 47 65 i _ Try.underlying47 hi hz .i64 .i64 (n : Int) (n : Int) (by omega) (by omega) (by rw [hb]; omega) (by omega)
  rw [hs] at this
  refine ⟨_, ?_, by rw [this]; rfl⟩
  simp [madeCells]
theorem three_is {X : Array Value} {a b c : Value} (h0 : X[0]? = some a) (h1 : X[1]? = some b) (h2 : X[2]? = some c) (hs : X.size = 3) : X = #[a, b, c] := by
  apply Array.ext_getElem?
  intro i
  rcases i with _ | _ | _ | i
  · simpa using h0
  · simpa using h1
  · simpa using h2
  · rw [Array.getElem?_eq_none (by omega), Array.getElem?_eq_none (by simp)]
theorem ItemR.block {w : World} {T : Nat → Prop} {v : Value} {l : List (Int × Nw)} (h : ItemR w T v l) : ∃ A c cs, v = .slice A l.length c ∧ ItemC w T cs l ∧ (0 < l.length → ∃ g cur, A = some ⟨g, 0, none⟩ ∧ w.heap[g]? = some (.cells cur 65 (0, 0)) ∧ l.length * 3 ≤ cur.size ∧
    cur.toList.take (l.length * 3) = cs) := by
  obtain ⟨cs, h1, h2⟩ := h
  rcases h1.2 with ⟨rfl, h0⟩ | ⟨g, cap, cur, rfl, hb, hg, hn, hm, hsz, ht⟩
  · exact ⟨none, 0, cs, by rw [h0], h2, fun hp => by omega⟩
  · exact ⟨_, cap, cs, rfl, h2, fun _ => ⟨g, cur, rfl, hg, by rw [hsz]; exact Nat.mul_le_mul_right 3 hn, ht⟩⟩
theorem ext_get {cur : Array Value} {cs : List Value} {n j : Nat} (hs : n * 3 ≤ cur.size) (ht : cur.toList.take (n * 3) = cs) (hj : j < n) : (cur.extract (j * 3) (j * 3 + 3)).size = 3 ∧ ∀ d, d < 3 → (cur.extract (j * 3) (j * 3 + 3))[d]? = cs[j * 3 + d]? := by
  refine ⟨by simp; omega, fun d hd => ?_⟩
  rw [← ht, List.getElem?_take, if_pos (by omega), Array.getElem?_extract, if_pos (by omega)]
  simp
theorem ext_item {w : World} {T : Nat → Prop} {cur : Array Value} {cs : List Value} {l : List (Int × Nw)} (hc : ItemC w T cs l) (hs : l.length * 3 ≤ cur.size) (ht : cur.toList.take (l.length * 3) = cs) (j : Nat) (hj : j < l.length) :
    ∃ D c, cur.extract (j * 3) (j * 3 + 3) = #[.int .i64 l[j].1, .slice D l[j].2.1.length c, .int .i64 (l[j].2.2 : Int)] ∧ l[j].2.1.length ≤ c ∧ Byt w w.heap.size D l[j].2.1 ∧ ∀ x, D = some x → T x.block := by
  obtain ⟨e1, ⟨D, c, e2, e3, e4, e5⟩, e6⟩ := hc.get j hj
  obtain ⟨h1, h2⟩ := ext_get hs ht hj
  exact ⟨D, c, three_is ((h2 0 (by omega)).trans e1) ((h2 1 (by omega)).trans e2) ((h2 2 (by omega)).trans e6) h1, e3, e4, e5⟩
theorem ItemC.ofGet {w : World} {T : Nat → Prop} : ∀ {l : List (Int × Nw)} {cs : List Value}, cs.length = l.length * 3 → (∀ j (hj : j < l.length), cs[j * 3]? = some (.int .i64 l[j].1) ∧ (∃ D c, cs[j * 3 + 1]? = some (.slice D l[j].2.1.length c) ∧ l[j].2.1.length ≤ c ∧ Byt w w.heap.size D l[j].2.1 ∧
    ∀ x, D = some x → T x.block) ∧ cs[j * 3 + 2]? = some (.int .i64 (l[j].2.2 : Int))) → ItemC w T cs l
  | [], [], _, _ => trivial
  | [], _ :: _, h, _ => by simp at h
  | p :: t, [], h, _ => by simp at h
  | p :: t, [_], h, _ => by simp at h; omega
  | p :: t, [_, _], h, _ => by simp at h; omega
  | p :: t, a :: b :: c :: s, h, hg => by
    obtain ⟨e1, ⟨D, cc, e2, e3, e4, e5⟩, e6⟩ := hg 0 (by simp)
    simp only [Nat.zero_mul, Nat.zero_add, List.getElem?_cons_zero, List.getElem?_cons_succ, List.getElem_cons_zero, Option.some.injEq] at e1 e2 e3 e4 e6
    refine ⟨e1, ⟨D, cc, e2, e3, e4, e5⟩, e6, ItemC.ofGet (by simp only [List.length_cons] at h; omega) fun j hj => ?_⟩
    have := hg (j + 1) (by simpa using hj)
    rw [show (j + 1) * 3 = j * 3 + 1 + 1 + 1 by omega, show j * 3 + 1 + 1 + 1 + 1 = (j * 3 + 1) + 1 + 1 + 1 by omega, show j * 3 + 1 + 1 + 1 + 2 = (j * 3 + 2) + 1 + 1 + 1 by omega] at this
    simpa only [List.getElem?_cons_succ, List.getElem_cons_succ] using this
/-- what is in the new row so far. -/
def OrdI (w wr : World) (G n : Nat) (R : List (Int × Nw)) (cs : List Value) (i : Nat) : Prop :=
  Below w.heap.size w wr ∧ G < wr.heap.size ∧ ∃ cur : Array Value, wr.heap[G]? = some (.cells cur 65 (0, 0)) ∧ cur.size = n * 3 ∧ ∀ i' (h : i' < R.length), i' < i → ∀ d, d < 3 → cur[rkQ R R[i'] * 3 + d]? = cs[i' * 3 + d]?
theorem rk_inj {R : List (Int × Nw)} (h : OkQ R) {i j : Nat} (hi : i < R.length) (hj : j < R.length) (e : rkQ R R[i] = rkQ R R[j]) : i = j := by
  obtain ⟨a, ea⟩ := rk_is h i hi
  obtain ⟨b, eb⟩ := rk_is h j hj
  have e2 : R[i] = R[j] := by rw [← ea, ← eb]; simp only [e]
  have h3 := h.nodup
  exact (List.getElem_inj (h₀ := by simpa using hi) (h₁ := by simpa using hj) h3).1 (by simpa using congrArg (·.1) e2)
theorem take_get {cur X : List Value} {o : Nat} (hX : X.length = 3) (ho : o + 3 ≤ cur.length) (m : Nat) : (cur.take (o + 0) ++ X ++ cur.drop (o + 0 + 3))[m]? = if m < o then cur[m]? else if m < o + 3 then X[m - o]? else cur[m]? := by
  have h1 : (cur.take o).length = o := by simp; omega
  rw [Nat.add_zero, List.append_assoc]
  by_cases hm : m < o
  · rw [if_pos hm, List.getElem?_append_left (by omega), List.getElem?_take, if_pos hm]
  · rw [if_neg hm, List.getElem?_append_right (by omega), h1]
    by_cases h2 : m < o + 3
    · rw [if_pos h2, List.getElem?_append_left (by omega)]
    · rw [if_neg h2, List.getElem?_append_right (by omega), hX, List.getElem?_drop]
      congr 1; omega
theorem OrdI.put {w wr W : World} {G n i : Nat} {R : List (Int × Nw)} {cs : List Value} {X cur : Array Value} (h : OkQ R) (hn : n = R.length) (hi : i < R.length) (hwG : w.heap.size ≤ G) (hb : Below w.heap.size w wr) (hG : wr.heap[G]? = some (.cells cur 65 (0, 0))) (hsz : cur.size = n * 3)
    (hold : ∀ i' (h : i' < R.length), i' < i → ∀ d, d < 3 → cur[rkQ R R[i'] * 3 + d]? = cs[i' * 3 + d]?) (hX : X.size = 3) (hXc : ∀ d, d < 3 → X[d]? = cs[i * 3 + d]?)
    (hW : W = wr.setRow G (cur.toList.take (rkQ R R[i] * 3 + 0) ++ X.toList ++ cur.toList.drop (rkQ R R[i] * 3 + 0 + 3)).toArray) : OrdI w W G n R cs (i + 1) := by
  have hrk := (rk_is h i hi).1
  rw [ordD_len] at hrk
  have hXl : X.toList.length = 3 := by simpa using hX
  have hcl : cur.toList.length = n * 3 := by simpa using hsz
  have hGl := (Array.getElem?_eq_some_iff.1 hG).1
  have hg := take_get (cur := cur.toList) (X := X.toList) (o := rkQ R R[i] * 3) hXl (by omega)
  subst hW
  refine ⟨below_setRow hb hwG _, by rw [setRow_size]; exact hGl, _, setRow_heap wr G _ _ _ _ hG, ?_, fun i' h' hlt d hd => ?_⟩
  · simp only [List.size_toArray, List.length_append, List.length_take, List.length_drop]; omega
  · rw [List.getElem?_toArray, hg]
    rcases Nat.lt_succ_iff_lt_or_eq.1 hlt with hlt | rfl
    · have hne : rkQ R R[i'] ≠ rkQ R R[i] := fun e => by have := rk_inj h h' hi e; omega
      by_cases hm : rkQ R R[i'] * 3 + d < rkQ R R[i] * 3
      · rw [if_pos hm, Array.getElem?_toList]; exact hold i' h' hlt d hd
      · rw [if_neg hm, if_neg (by omega), Array.getElem?_toList]; exact hold i' h' hlt d hd
    · rw [if_neg (by omega), if_pos (by omega), show rkQ R R[i'] * 3 + d - rkQ R R[i'] * 3 = d by omega, Array.getElem?_toList]
      exact hXc d hd
/-- all is in its place. -/
theorem OrdI.done {w wr : World} {G n : Nat} {R : List (Int × Nw)} {cs : List Value} {T : Nat → Prop} (hok : OkQ R) (hn : n = R.length) (hmx : n ≤ 4096) (hT : ∀ g, T g → g < w.heap.size) (hc : ItemC w T cs R) (h : OrdI w wr G n R cs n) : ItemR wr T (.slice (some ⟨G, 0, none⟩) n n) (ordD R) := by
  obtain ⟨hb, hG, cur, hcur, hsz, hall⟩ := h
  have hl : (ordD R).length = n := by rw [ordD_len, hn]
  refine ⟨cur.toList, ⟨by rw [hl]; simpa using hsz, .inr ⟨G, n, cur, by rw [hl], Nat.zero_le _, hcur, by rw [hl]; exact Nat.le_refl _, by unfold maxLen; omega, by rw [hsz], by rw [hl, List.take_of_length_le (by simp; omega)]⟩⟩, ItemC.ofGet (by rw [hl]; simpa using hsz) fun j hj => ?_⟩
  obtain ⟨i, hi, e, hr⟩ := rk_from hok j hj
  obtain ⟨e1, ⟨D, c, e2, e3, e4, e5⟩, e6⟩ := hc.get i hi
  have ha := hall i hi (by omega)
  rw [hr] at ha
  rw [← e]
  refine ⟨?_, ⟨D, c, ?_, e3, byt_T e4 (fun x hx hxl => hb.block x hxl) hb.size e5, e5⟩, ?_⟩
  · rw [Array.getElem?_toList]; exact (ha 0 (by omega)).trans e1
  · rw [Array.getElem?_toList]; exact (ha 1 (by omega)).trans e2
  · rw [Array.getElem?_toList]; exact (ha 2 (by omega)).trans e6
theorem count_take (R : List (Int × Nw)) (b : Int × Nw) (j : Nat) (hj : j < R.length) : (R.take (j + 1)).countP (fun a => befQ a b) = (R.take j).countP (fun a => befQ a b) + if befQ R[j] b = true then 1 else 0 := by
  rw [List.take_succ_eq_append_getElem hj, List.countP_append, List.countP_singleton]
theorem count_le (R : List (Int × Nw)) (b : Int × Nw) (j : Nat) : (R.take j).countP (fun a => befQ a b) ≤ j := Nat.le_trans List.countP_le_length (by simp; omega)

theorem OrdI.grow {w wr : World} {G n i : Nat} {R : List (Int × Nw)} {cs : List Value} (h : OrdI w wr G n R cs i) : w.heap.size ≤ wr.heap.size := h.1.size
def OrdRP (w : World) (T : Nat → Prop) (R : List (Int × Nw)) (e : Ending) (w' : World) : Prop := ∃ G, e = .returned (.slice (some ⟨G, 0, none⟩) R.length R.length) ∧ w.heap.size ≤ G ∧ Below w.heap.size w w' ∧ ItemR w' T (.slice (some ⟨G, 0, none⟩) R.length R.length) (ordD R)
set_option maxHeartbeats 4000000 in
theorem orderR_any (w : World) (r : Nat) (most : Int) (v : Value) (R : List (Int × Nw)) (T : Nat → Prop) (h : RefQ w r most v R T) (hl : R.length ≤ 4096) :
    Calls Try.prog 32 #[.pointer (some ⟨r, 0, none⟩)] w (OrdRP w T R) := by
  obtain ⟨A, c, cs, rfl, hcs, hblk⟩ := h.items.block
  have c1 : w.cell? ⟨r, 1, none⟩ = some (.slice A R.length c) := (cell_of_row w r 1 _ _ (0, 0) h.row).trans rfl
  have hr : r < w.heap.size := (Array.getElem?_eq_some_iff.1 h.row).1
  obtain ⟨n, hn⟩ : ∃ n, n = R.length := ⟨_, rfl⟩
  have HOK := hide h.ok
  have HT := hide (fun g (hg : T g) => (h.sep g hg).1)
  have HCS := hide hcs
  have HB := hide hblk
  have HF : Hid (∀ G wr, w.heap.size ≤ G → OrdI w wr G n R cs n → OrdRP w T R (.returned (.slice (some ⟨G, 0, none⟩) n n)) wr) := hide (fun G wr hG hI => by
    have := hI.done HOK.out hn (by omega) HT.out HCS.out
    rw [hn] at this
    exact ⟨G, by rw [hn], hG, hI.1, this⟩)
  have HC1 := hide c1
  rw [← hn] at c1 hl
  have HN := hide hn
  obtain ⟨M, hM, hmk⟩ := make_ri w n hl
  have HM := hide hM
  have HR := hide hr
  clear h hcs hblk hn hM hr
  go_enter Try.func32, Try.ntmps32
  go_upto_region 2 with (fail)
  obtain ⟨W, hW, rG, zG, bG⟩ := alloc_nm w (.cells M 65)
  rw [hW]
  obtain ⟨G, hG⟩ : ∃ G, G = w.heap.size := ⟨_, rfl⟩
  rw [← hG] at rG ⊢
  have HGe := hide hG
  have HI0 : Hid (OrdI w W G n R cs 0) := hide ⟨bG, by rw [zG, hG]; exact Nat.lt_succ_self _, M, rG, HM.out, fun i' _ hh => absurd hh (by omega)⟩
  clear hW rG zG bG hG hmk c1
  have C1 : Hid (w.cell? ⟨r, 1, none⟩ = some (.slice A n c)) := hide (by rw [HN.out]; exact HC1.out)
  go_wp2
  go_loopw [4] (fun i wr => ∃ j : Nat, j ≤ n ∧ i = .int .i64 (j : Int) ∧ Hid (OrdI w wr G n R cs j)) (fun i _ => n - (Go.RowKit.intOf i).toNat)
  case atStart => exact ⟨0, by omega, rfl, HI0⟩
  case round =>
    obtain ⟨j, hj, rfl, hI⟩ := hrel
    obtain ⟨wo, hwo⟩ : ∃ wo, wo = wr := ⟨_, rfl⟩
    subst hwo
    have e1 : wo.cell? ⟨r, 1, none⟩ = some (.slice A n c) := (hI.out.1.cell (show (⟨r, 1, none⟩ : Addr).block < w.heap.size from HR.out)).trans C1.out
    by_cases hlt : j < n
    · have hji : (j : Int) < (n : Int) := by omega
      have hjl : j < R.length := by rw [← HN.out]; exact hlt
      obtain ⟨b, qc, rfl, hqb, hqs, hqt⟩ := HB.out (by omega)
      have hbl : b < w.heap.size := (Array.getElem?_eq_some_iff.1 hqb).1
      rw [← HN.out] at hqs hqt
      have QB := hide hqb
      have QS := hide hqs
      have QT := hide hqt
      have BL := hide hbl
      clear hqb hqs hqt hbl
      obtain ⟨ki, ti, di, DI, ci, hXi, hk, ht⟩ : ∃ (k : Int) (t : Nat) (d : Nat) (D : Option Addr) (cc : Nat), qc.extract (j * 3) (j * 3 + 3) = #[.int .i64 k, .slice D d cc, .int .i64 (t : Int)] ∧ k = R[j].1 ∧ t = R[j].2.2 := by
        obtain ⟨D, cc, e, -⟩ := ext_item HCS.out (by rw [← HN.out]; exact QS.out) (by rw [← HN.out]; exact QT.out) j hjl
        exact ⟨_, _, _, D, cc, e, rfl, rfl⟩
      have HK := hide (And.intro hk ht)
      clear hk ht
      obtain ⟨B, hBd⟩ : ∃ B, B = R[j] := ⟨_, rfl⟩
      rw [← hBd] at HK
      have HBd := hide hBd
      clear hBd
      have GR := hI.out.grow
      have GR := hide GR
      have QBr : Hid (wo.heap[b]? = some (.cells qc 65 (0, 0))) := hide ((hI.out.1.block b BL.out).trans QB.out)
      have E1 := hide e1
      clear e1
      have e1 := E1.out
      go_upto_region 7 with (fail)
      clear e1
      go_loopw [5, 6] (fun nn kk wi => ∃ m : Nat, m ≤ n ∧ kk = .int .i64 (m : Int) ∧ nn = .int .i64 (((R.take m).countP (fun a => befQ a B) : Nat) : Int) ∧ Hid (Below wo.heap.size wo wi)) (fun _ kk _ => n - (Go.RowKit.intOf kk).toNat)
      case atStart => exact ⟨0, by omega, rfl, rfl, hide (Below.refl _ _)⟩
      case round =>
        obtain ⟨m, hm, rfl, rfl, hB⟩ := hrel
        obtain ⟨wi, hwi⟩ : ∃ wi, wi = wr := ⟨_, rfl⟩
        subst hwi
        have e1 : wi.cell? ⟨r, 1, none⟩ = some (.slice (some ⟨b, 0, none⟩) n c) := (hB.out.cell (show (⟨r, 1, none⟩ : Addr).block < wo.heap.size from Nat.lt_of_lt_of_le HR.out GR.out)).trans E1.out
        have hqb : wi.heap[b]? = some (.cells qc 65 (0, 0)) := (hB.out.block b (Nat.lt_of_lt_of_le BL.out GR.out)).trans QBr.out
        by_cases hmlt : m < n
        · have hmi : (m : Int) < (n : Int) := by omega
          have hml : m < R.length := by rw [← HN.out]; exact hmlt
          have hcnt := count_take R B m hml
          have hle := count_le R B m
          obtain ⟨q, hq⟩ : ∃ q, q = (R.take m).countP (fun a => befQ a B) := ⟨_, rfl⟩
          rw [← hq] at hcnt hle ⊢
          obtain ⟨km, tm, dm, DM, cm, hXm, hkm, htm⟩ : ∃ (k : Int) (t : Nat) (d : Nat) (D : Option Addr) (cc : Nat), qc.extract (m * 3) (m * 3 + 3) = #[.int .i64 k, .slice D d cc, .int .i64 (t : Int)] ∧ k = R[m].1 ∧ t = R[m].2.2 := by
            obtain ⟨D, cc, e, -⟩ := ext_item HCS.out (by rw [← HN.out]; exact QS.out) (by rw [← HN.out]; exact QT.out) m hml
            exact ⟨_, _, _, D, cc, e, rfl, rfl⟩
          have HQ0 := hide hq
          have hq1 : m * 3 + 3 ≤ qc.size := by have := QS.out; omega
          have hq2 : j * 3 + 3 ≤ qc.size := by have := QS.out; omega
          have hbf := befQ_iff R[m] B
          rw [← hkm, ← htm, ← HK.out.1, ← HK.out.2] at hbf
          obtain ⟨f, hf⟩ : ∃ f, f = befQ R[m] B := ⟨_, rfl⟩
          rw [← hf] at hbf hcnt
          have HC1q : Hid (((R.take (m + 1)).countP (fun a => befQ a B)) = q + if f = true then 1 else 0) := hide hcnt
          clear hkm htm hcnt hq hml hf HQ0
          go_upto_region 10 with (fail)
          obtain ⟨W1, hW1, r1, z1, b1⟩ := alloc_nm wi (.cells #[.int .i64 km, .slice DM dm cm, .int .i64 (tm : Int)] 65)
          rw [hW1]
          have B1 := hide (hB.out.trans (b1.mono hB.out.size))
          obtain ⟨G1, hG1⟩ : ∃ G, G = wi.heap.size := ⟨_, rfl⟩
          rw [← hG1] at r1 ⊢
          have L1 : Hid (G1 < W1.heap.size) := hide (by rw [z1, hG1]; exact Nat.lt_succ_self _)
          have e2 : W1.cell? ⟨r, 1, none⟩ = some (.slice (some ⟨b, 0, none⟩) n c) := (B1.out.cell (show (⟨r, 1, none⟩ : Addr).block < wo.heap.size from Nat.lt_of_lt_of_le HR.out GR.out)).trans E1.out
          have hqb2 : W1.heap[b]? = some (.cells qc 65 (0, 0)) := (B1.out.block b (Nat.lt_of_lt_of_le BL.out GR.out)).trans QBr.out
          clear hW1 z1 b1 hG1 e1 hqb
          go_upto_region 11 with (fail)
          obtain ⟨W2, hW2, r2, z2, b2⟩ := alloc_nm W1 (.cells #[.int .i64 ki, .slice DI di ci, .int .i64 (ti : Int)] 65)
          rw [hW2]
          have B2 := hide (B1.out.trans (b2.mono B1.out.size))
          have r1' := (b2.block G1 L1.out).trans r1
          obtain ⟨G2, hG2⟩ : ∃ G, G = W1.heap.size := ⟨_, rfl⟩
          rw [← hG2] at r2 ⊢
          clear hW2 z2 b2 hG2 e2 hqb2 r1
          have k0 : W2.cell? ⟨G1, 0, none⟩ = some (.int .i64 km) := (cell_of_row W2 G1 0 _ _ (0, 0) r1').trans rfl
          have k2 : W2.cell? ⟨G1, 2, none⟩ = some (.int .i64 (tm : Int)) := (cell_of_row W2 G1 2 _ _ (0, 0) r1').trans rfl
          have l0 : W2.cell? ⟨G2, 0, none⟩ = some (.int .i64 ki) := (cell_of_row W2 G2 0 _ _ (0, 0) r2).trans rfl
          have l2 : W2.cell? ⟨G2, 2, none⟩ = some (.int .i64 (ti : Int)) := (cell_of_row W2 G2 2 _ _ (0, 0) r2).trans rfl
          clear r1' r2
          have HQ1 : Hid (∀ g, (f = g) → (((R.take (m + 1)).countP (fun a => befQ a B) : Nat) : Int) = (q : Int) + if g = true then 1 else 0) := hide (fun g hg => by rw [HC1q.out, hg]; split <;> simp)
          have HBF := hide hbf
          clear hbf
          by_cases h1 : ti < tm
          · have hf : Hid (f = true) := hide (HBF.out.2 (.inl h1))
            go_wp2
            go_roundw
            case rel => exact ⟨m + 1, by omega, by go_num, by rw [HQ1.out true hf.out]; simp, B2⟩
            case measure => simp [Go.RowKit.intOf]; omega
          · by_cases h2 : tm = ti
            · subst h2
              by_cases h3 : km < ki
              · have hf : Hid (f = true) := hide (HBF.out.2 (.inr ⟨rfl, h3⟩))
                go_wp2
                go_roundw
                case rel => exact ⟨m + 1, by omega, by go_num, by rw [HQ1.out true hf.out]; simp, B2⟩
                case measure => simp [Go.RowKit.intOf]; omega
              · have hf : Hid (f = false) := hide (Bool.eq_false_iff.2 fun e => by rcases HBF.out.1 e with h | h; exact h1 h; exact h3 h.2)
                go_wp2
                go_roundw
                case rel => exact ⟨m + 1, by omega, by go_num, by rw [HQ1.out false hf.out]; simp, B2⟩
                case measure => simp [Go.RowKit.intOf]; omega
            · have hf : Hid (f = false) := hide (Bool.eq_false_iff.2 fun e => by rcases HBF.out.1 e with h | h; exact h1 h; exact h2 h.1)
              go_wp2
              go_roundw
              case rel => exact ⟨m + 1, by omega, by go_num, by rw [HQ1.out false hf.out]; simp, B2⟩
              case measure => simp [Go.RowKit.intOf]; omega
        · obtain rfl : m = n := by omega
          obtain ⟨q, hq⟩ : ∃ q, q = (R.take m).countP (fun a => befQ a B) := ⟨_, rfl⟩
          rw [← hq]
          have hqr : q = rkQ R R[j] := by rw [hq, HBd.out, List.take_of_length_le (by rw [← HN.out]; exact Nat.le_refl _)]; rfl
          have hqm : q < m := by
            have := (rk_is HOK.out j hjl).1
            rw [ordD_len, ← HN.out, ← hqr] at this
            exact this
          have HQR := hide hqr
          obtain ⟨X, hX⟩ : ∃ X, X = qc.extract (j * 3) (j * 3 + 3) := ⟨_, rfl⟩
          have hXs : X.size = 3 ∧ ∀ d, d < 3 → X[d]? = cs[j * 3 + d]? := by rw [hX]; exact ext_get QS.out QT.out hlt
          obtain ⟨-, hGl, cur, hcur, hcs3, hold⟩ := hI.out
          have hgi := (hB.out.block G hGl).trans hcur
          have hst := run_storeCells_at (P := Try.prog) G (q * 3) 65 X.toList 0 cur wi hgi (by rw [hcs3]; simp [hXs.1]; omega) (by
            intro u hu
            rw [hX, hXi] at hu
            simp at hu; rcases hu with rfl | rfl | rfl <;> rfl)
          obtain ⟨W8, hW8⟩ : ∃ W, W = wi.setRow G (cur.toList.take (q * 3 + 0) ++ X.toList ++ cur.toList.drop (q * 3 + 0 + 3)).toArray := ⟨_, rfl⟩
          have hX3 : X.toList.length = 3 := by simpa using hXs.1
          rw [hX3] at hst
          have HI8 : Hid (OrdI w W8 G m R cs (j + 1)) := hide (OrdI.put HOK.out HN.out hjl (by rw [HGe.out]; exact Nat.le_refl _) (hI.out.1.trans (hB.out.mono GR.out)) hgi hcs3 hold hXs.1 hXs.2 (by rw [hW8, hqr]))
          rw [← hW8] at hst
          have hXi2 : qc.extract (j * 3) (j * 3 + 3) = X := hX.symm
          have hXz := hXs.1
          have hq2 : j * 3 + 3 ≤ qc.size := by have := QS.out; omega
          clear hW8 hX hXi hXs hold hcur hcs3 hGl hgi hq hqr hX3
          have hqi : (q : Int) < (m : Int) := by omega
          go_wp2
          go_roundw
          case rel => exact ⟨j + 1, by omega, by go_num, HI8⟩
          case measure => simp [Go.RowKit.intOf]; omega
    · obtain rfl : j = n := by omega
      go_wp2
      go_ret
      exact HF.out _ _ (by rw [HGe.out]; exact Nat.le_refl _) hI.out
end Go.Proofs.Ytajpibopknpmmaa
