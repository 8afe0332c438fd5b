/-
  The document's own Put of a tunnel: its first half, whether it can be and how long it is.
-/
import Derived.Test.YtihakjcccbionaaGreatDoorMgn
import Derived.Deep.CutRange
namespace Go.Proofs.YtihakjcccbionaaGreatDoor
open Go.RowKit
set_option maxRecDepth 100000
set_option linter.unusedVariables false
set_option linter.unusedSimpArgs false

/-- the options' size, reckoned till it is too much. -/
def capD (l : List OpD) : Nat := l.foldl (fun s o => if s ≤ 252 then s + (4 + o.2.2.length) else s) 0
theorem capD_snoc (l : List OpD) (o : OpD) : capD (l ++ [o]) = if capD l ≤ 252 then capD l + (4 + o.2.2.length) else capD l := by
  unfold capD; rw [List.foldl_append]; rfl
theorem capD_fold (l : List OpD) : ∀ s : Nat, (s + sizeD l ≤ 252 → l.foldl (fun s (o : OpD) => if s ≤ 252 then s + (4 + o.2.2.length) else s) s = s + sizeD l) ∧ (252 < s + sizeD l → 252 < l.foldl (fun s (o : OpD) => if s ≤ 252 then s + (4 + o.2.2.length) else s) s) := by
  induction l with
  | nil => intro s; simp [sizeD]
  | cons o l ih =>
    intro s
    have e : sizeD (o :: l) = (4 + o.2.2.length) + sizeD l := rfl
    rw [e, List.foldl_cons]
    by_cases h : s ≤ 252
    · rw [if_pos h]
      obtain ⟨h1, h2⟩ := ih (s + (4 + o.2.2.length))
      exact ⟨fun h3 => by rw [h1 (by omega)]; omega, fun h3 => h2 (by omega)⟩
    · rw [if_neg h]
      obtain ⟨h1, h2⟩ := ih s
      exact ⟨fun h3 => by omega, fun h3 => by
        rcases Nat.lt_or_ge 252 (s + sizeD l) with h4 | h4
        · exact h2 h4
        · omega⟩
theorem capD_le {l : List OpD} : (sizeD l ≤ 252 → capD l = sizeD l) ∧ (252 < sizeD l → 252 < capD l) := by
  have := capD_fold l 0
  simp only [Nat.zero_add] at this
  exact this
theorem capD_max {l : List OpD} {M : Nat} (h : ∀ x ∈ l, x.2.2.length ≤ M) : capD l ≤ 256 + M := by
  unfold capD
  have : ∀ (l : List OpD) (s : Nat), (∀ x ∈ l, x.2.2.length ≤ M) → s ≤ 256 + M → l.foldl (fun s (o : OpD) => if s ≤ 252 then s + (4 + o.2.2.length) else s) s ≤ 256 + M := by
    intro l
    induction l with
    | nil => intro s _ hs; exact hs
    | cons o l ih =>
      intro s hx hs
      rw [List.foldl_cons]
      refine ih _ (fun x h => hx x (List.mem_cons_of_mem _ h)) ?_
      have := hx o List.mem_cons_self
      split <;> omega
  exact this l 0 h (by omega)
theorem take_snoc {l : List OpD} {j : Nat} (h : j < l.length) : l.take (j + 1) = l.take j ++ [l[j]] := List.take_succ_eq_append_getElem h
theorem crit_snoc (l : List OpD) (o : OpD) : critD (l ++ [o]) = (critD l || decide (128 ≤ o.2.1)) := by
  unfold critD; rw [List.any_append, List.any_cons, List.any_nil, Bool.or_false]
theorem all_snoc (l : List OpD) (o : OpD) : (l ++ [o]).all okdG = (l.all okdG && okdG o) := by
  rw [List.all_append, List.all_cons, List.all_nil, Bool.and_true]
/-- what is put, as the document says it. -/
def putO (ok0 : Bool) (T : TuD) (B : List UInt8) : List UInt8 × Nat := if (ok0 && T.l.all okdG) = false then ([], 1) else if 252 < capD T.l then ([], 3) else if (65527 : Int) - capD T.l < T.D.length then ([], 3) else (B, 0)
theorem opt_cellsM {w : World} {g : Nat} {c t : Int} {v : Value} {ty : TypeId} (hg : w.heap[g]? = some (.cells #[.int .i64 c, .int .i64 t, v] ty (0, 0))) :
    w.cell? ⟨g, 0, none⟩ = some (.int .i64 c) ∧ w.cell? ⟨g, 1, none⟩ = some (.int .i64 t) ∧ w.cell? ⟨g, 2, none⟩ = some v :=
  ⟨(cell_of_row w g 0 _ _ (0, 0) hg).trans rfl, (cell_of_row w g 1 _ _ (0, 0) hg).trans rfl, (cell_of_row w g 2 _ _ (0, 0) hg).trans rfl⟩
theorem bytD_len (T : TuD) : (bytD T).length = 8 + (sizeD T.l + T.D.length) := by
  unfold bytD
  simp only [List.length_append, length_numBytes]
  have : (T.l.flatMap optD).length = sizeD T.l := by
    generalize T.l = L
    induction L with
    | nil => rfl
    | cons a l ih => rw [List.flatMap_cons, List.length_append, ih]; unfold optD; simp [length_numBytes, sizeD]; omega
  omega
theorem numB3 (n : Nat) : numBytes n 3 3 = [UInt8.ofNat (n / 65536), UInt8.ofNat (n / 256), UInt8.ofNat n] := by simp [numBytes, List.range_succ]
theorem numB2m (n : Nat) : numBytes n 2 2 = [UInt8.ofNat (n / 256), UInt8.ofNat n] := by simp [numBytes, List.range_succ]
theorem numB1m (n : Nat) : numBytes n 1 1 = [UInt8.ofNat n] := by simp [numBytes]
theorem byteV_of (n : Nat) : byteV (UInt8.ofNat n) = .int .u8 ((n % 256 : Nat) : Int) := by simp [byteV]
/-- a tunnel's first eight bytes. -/
def hd8 (S F p v : Nat) : List UInt8 := numBytes (S / 4) 1 1 ++ (numBytes F 1 1 ++ (numBytes p 2 2 ++ (numBytes v 3 3 ++ numBytes 0 1 1)))
theorem hd8_len (S F p v : Nat) : (hd8 S F p v).length = 8 := by simp [hd8, length_numBytes]
theorem hd8_cells {S F p v : Nat} (hS : S ≤ 252) (hF : F < 256) (hp : p ≤ 65535) (hv : v ≤ 16777215) : #[Value.int .u8 ((S : Int) / 4), .int .u8 (F : Int), .int .u8 ((p : Int) / 256), .int .u8 ((p : Int) % 256), .int .u8 ((v : Int) / 65536), .int .u8 ((v : Int) / 256 % 256), .int .u8 ((v : Int) % 256), .int .u8 0] = ((hd8 S F p v).map byteV).toArray := by
  unfold hd8
  rw [numB1m, numB1m, numB1m, numB2m, numB3]
  simp only [List.cons_append, List.nil_append, List.map_cons, List.map_nil, byteV_of]
  congr 1
  simp only [List.cons.injEq, Value.int.injEq, true_and, and_true]
  refine ⟨?_, ?_, ?_, ?_, ?_, ?_, ?_, ?_⟩ <;> omega
/-- an option's first four bytes. -/
def od4 (c t n : Nat) : List UInt8 := numBytes c 2 2 ++ (numBytes t 1 1 ++ numBytes (n / 4) 1 1)
theorem od4_cells {c t n : Nat} (hc : c ≤ 65535) (ht : t ≤ 255) (hn : n ≤ 124) : #[Value.int .u8 ((c : Int) / 256), .int .u8 ((c : Int) % 256), .int .u8 (t : Int), .int .u8 ((n : Int) / 4)] = ((od4 c t n).map byteV).toArray := by
  unfold od4
  rw [numB1m, numB1m, numB2m]
  simp only [List.cons_append, List.nil_append, List.map_cons, List.map_nil, byteV_of]
  congr 1
  simp only [List.cons.injEq, Value.int.injEq, true_and, and_true]
  refine ⟨?_, ?_, ?_, ?_⟩ <;> omega
theorem bytD_hd {T : TuD} {S F p v : Nat} (hS : S = sizeD T.l) (hF : (flD T.o T.l).toNat = F) (hp : T.p = (p : Int)) (hv : T.v = (v : Int)) : bytD T = hd8 S F p v ++ (T.l.flatMap optD ++ T.D) := by
  unfold bytD hd8; rw [hF, hp, hv, ← hS]; simp only [Int.toNat_natCast, List.append_assoc]
def critV (l : List OpD) : Int := if critD l then 64 else 0
set_option maxHeartbeats 8000000 in
theorem refputG_any (w : World) (X : Array Value) (T : TuD) (h : TuG w X T) (hl : T.l.length ≤ 1048576) (hD : T.D.length ≤ 140737488355320) (hd : ∀ x ∈ T.l, x.2.2.length ≤ 140737488355320) :
    Calls Tryz.prog 19 #[.agg X] w fun e w' => ∃ A' c', e = .returned (.tuple #[.slice A' (putD T).1.length c', .int .i64 ((putD T).2 : Int)]) ∧ OwnB w' w.heap.size (.slice A' (putD T).1.length c') (putD T).1 ∧ Below w.heap.size w w' := by
  obtain ⟨A0, c0, l0, I0, k0, hX, hp⟩ := h
  obtain ⟨W, hW, r1, hz, hbW⟩ := one_blk w (.cells X 30)
  obtain ⟨n, hn⟩ : ∃ n, n = l0.length := ⟨_, rfl⟩
  have hlen := hp.len
  rw [← hn] at hX hlen
  obtain ⟨m, hm⟩ : ∃ m, m = T.D.length := ⟨_, rfl⟩
  rw [← hm] at hX
  have HM := hide hm
  have HN := hide hn
  have HLEN := hide hlen
  have hn20 : n ≤ 1048576 := by rw [hlen]; exact hl
  have HD := hide hD
  have HDD := hide hd
  obtain ⟨ou, hto⟩ : ∃ x, x = T.o := ⟨_, rfl⟩
  obtain ⟨tp, htp⟩ : ∃ x, x = T.p := ⟨_, rfl⟩
  obtain ⟨tv, htv⟩ : ∃ x, x = T.v := ⟨_, rfl⟩
  rw [← hto, ← htp, ← htv] at hX
  have HT := hide (And.intro hto (And.intro htp htv))
  have HC := hide (fun (W1 : World) (b : Below W.heap.size W W1) => (by have r := (b.block w.heap.size (by omega)).trans r1; rw [hX] at r; exact tunA_cells r : W1.cell? ⟨w.heap.size, 0, none⟩ = some (.bool ou) ∧ W1.cell? ⟨w.heap.size, 1, none⟩ = some (.int .i64 tp) ∧ W1.cell? ⟨w.heap.size, 2, none⟩ = some (.int .i64 tv) ∧ W1.cell? ⟨w.heap.size, 3, none⟩ = some (.slice A0 n c0) ∧ W1.cell? ⟨w.heap.size, 4, none⟩ = some (.slice I0 m k0)))
  have HP := hide (hp.below hbW)
  have KP := hide (upG7_any tp 65535)
  have KV := hide (upG7_any tv 16777215)
  obtain ⟨up, hup⟩ : ∃ b, b = upG 65535 tp := ⟨_, rfl⟩
  obtain ⟨uv, huv⟩ : ∃ b, b = upG 16777215 tv := ⟨_, rfl⟩
  obtain ⟨ok0, hok0⟩ : ∃ b, b = (up && uv) := ⟨_, rfl⟩
  have HOK0 := hide hok0
  rw [← hup] at KP
  rw [← huv] at KV
  have HUP := hide (And.intro hup huv)
  have HB := hide hbW
  have HW := hide hW
  have HZ := hide hz
  obtain ⟨c0', c1', c2', c3', c4'⟩ := HC.out W (Below.refl _ _)
  clear hp hn hlen hl hm hto htp htv hX hup huv hW r1 hbW hz hD hd
  go_enter Tryz.func19, Tryz.ntmps19
  go_upto_region 1 with (fail)
  change Code.wp _ _ _ _ (w.alloc (.cells X 30))
  rw [HW.out]
  go_cut [4] from 12 to 19 (fun v wx => v = .bool ok0 ∧ wx = W)
  case first =>
    have hcs : (up = false ∧ ok0 = false) ∨ (up = true ∧ uv = false ∧ ok0 = false) ∨ (up = true ∧ uv = true ∧ ok0 = true) := by rw [hok0]; cases up <;> cases uv <;> simp
    clear hok0
    rcases hcs with ⟨rfl, rfl⟩ | ⟨rfl, rfl, rfl⟩ | ⟨rfl, rfl, rfl⟩
    all_goals (
      go_wp2_with (first
        | (go_at_call 40; (with_reducible refine (KP.out _).mono ?_); rintro e w1 ⟨rfl, rfl⟩)
        | (go_at_call 40; (with_reducible refine (KV.out _).mono ?_); rintro e w1 ⟨rfl, rfl⟩)
        | fail)
      go_meet
      exact ⟨rfl, rfl⟩)
  case rest =>
    obtain ⟨rfl, hwc⟩ := hcut
    rw [hwc]
    clear hwc
    have hok1 : Hid (ok0 = (up && uv)) := hide hok0
    clear hok0 c0' c1' c2' c3' c4'
    go_wp2
    go_loopw [4, 5, 6, 7, 8] (fun v4 v5 v6 v7 _ wr => ∃ (j : Nat) (ok : Bool) (cr : Int), j ≤ n ∧ v7 = .int .i64 (j : Int) ∧ v4 = .bool ok ∧ v5 = .int .i64 ((capD (T.l.take j) : Nat) : Int) ∧ v6 = .int .u8 cr ∧ Hid (ok = (ok0 && (T.l.take j).all okdG) ∧ cr = critV (T.l.take j)) ∧ Hid (Below W.heap.size W wr)) (fun _ _ _ i _ _ => n - (intOf i).toNat)
    case atStart => exact ⟨0, ok0, 0, by omega, rfl, rfl, rfl, rfl, hide ⟨by simp, rfl⟩, hide (Below.refl _ _)⟩
    case round =>
      obtain ⟨j, ok, cr, hj, rfl, rfl, rfl, rfl, hI, hb⟩ := hrel
      obtain ⟨-, -, -, d3, -⟩ := HC.out wr hb.out
      by_cases hlt : j < n
      · have hjl : j < l0.length := by rw [← HN.out]; exact hlt
        have hjT : j < T.l.length := by rw [← HLEN.out]; exact hlt
        obtain ⟨bb, off, rfl, hbB, hc⟩ := HP.out.rd (by omega)
        obtain ⟨e0, e1, e2⟩ := hc j hjl
        have hsay := say_get HP.out.say hjl hjT
        have htk := take_snoc hjT
        have hln := HDD.out _ (List.getElem_mem hjT)
        have hcm := capD_max (l := T.l.take j) (M := 140737488355320) (fun x hx => HDD.out x (List.mem_of_mem_take hx))
        rw [hsay] at htk hln
        obtain ⟨x, hx⟩ : ∃ x, x = l0[j] := ⟨_, rfl⟩
        rw [← hx] at e0 e1 e2 htk hln
        obtain ⟨xc, xt, xa, xk, xd⟩ := x
        simp only at e0 e1 e2 htk hln
        have hcs := capD_snoc (T.l.take j) (xc, xt, xd)
        have hcrs := crit_snoc (T.l.take j) (xc, xt, xd)
        have has := all_snoc (T.l.take j) (xc, xt, xd)
        rw [← htk] at hcs hcrs has
        simp only at hcs hcrs
        obtain ⟨xn, hxn⟩ : ∃ k, k = xd.length := ⟨_, rfl⟩
        rw [← hxn] at e2 hcs hln
        have hok : okdG (xc, xt, xd) = (upG 65535 xc && (upG 255 xt && (xn % 4 == 0 && decide (xn ≤ 124)))) := by rw [hxn]; rfl
        obtain ⟨S, hS⟩ : ∃ S, S = capD (T.l.take j) := ⟨_, rfl⟩
        rw [← hS] at hcs hcm ⊢
        obtain ⟨okn, hokn⟩ : ∃ b, b = (ok && okdG (xc, xt, xd)) := ⟨_, rfl⟩
        have HOKN : Hid (okn = (ok0 && (T.l.take (j + 1)).all okdG)) := hide (by rw [hokn, hI.out.1, has, Bool.and_assoc])
        have HCS := hide hcs
        have HCRS := hide hcrs
        have HCR := hide hI.out.2
        have K1 := hide (upG7_any xc 65535)
        have K2 := hide (upG7_any xt 255)
        obtain ⟨u1, hu1⟩ : ∃ b, b = upG 65535 xc := ⟨_, rfl⟩
        obtain ⟨u2, hu2⟩ : ∃ b, b = upG 255 xt := ⟨_, rfl⟩
        rw [← hu1] at K1 hok
        rw [← hu2] at K2 hok
        rw [hok] at hokn
        have kk : (ok = false ∧ okn = false) ∨ (ok = true ∧ u1 = false ∧ okn = false) ∨ (ok = true ∧ u1 = true ∧ u2 = false ∧ okn = false) ∨ (ok = true ∧ u1 = true ∧ u2 = true ∧ ((xn : Int) % 4 == 0) = false ∧ okn = false) ∨ (ok = true ∧ u1 = true ∧ u2 = true ∧ ((xn : Int) % 4 == 0) = true ∧ ¬ (xn : Int) ≤ 124 ∧ okn = false) ∨ (ok = true ∧ u1 = true ∧ u2 = true ∧ ((xn : Int) % 4 == 0) = true ∧ (xn : Int) ≤ 124 ∧ okn = true) := by
          have n4 : ((xn : Int) % 4 == 0) = (xn % 4 == 0) := by
            rw [Bool.eq_iff_iff]; simp; omega
          rw [n4, hokn]
          by_cases h124 : xn ≤ 124
          · have : (xn : Int) ≤ 124 := by omega
            cases ok <;> cases u1 <;> cases u2 <;> cases (xn % 4 == 0) <;> simp [h124, this]
          · have : ¬ (xn : Int) ≤ 124 := by omega
            cases ok <;> cases u1 <;> cases u2 <;> cases (xn % 4 == 0) <;> simp [h124, this]
        have HKK := hide kk
        have f0 : wr.cell? ⟨bb, off + j * 3, none⟩ = some (.int .i64 xc) := (hb.out.cell (show (⟨bb, off + j * 3, none⟩ : Addr).block < W.heap.size from hbB)).trans e0
        have f1 : wr.cell? ⟨bb, off + j * 3 + 1, none⟩ = some (.int .i64 xt) := (hb.out.cell (show (⟨bb, off + j * 3 + 1, none⟩ : Addr).block < W.heap.size from hbB)).trans e1
        have f2 : wr.cell? ⟨bb, off + j * 3 + 2, none⟩ = some (.slice xa xn xk) := (hb.out.cell (show (⟨bb, off + j * 3 + 2, none⟩ : Addr).block < W.heap.size from hbB)).trans e2
        have hj1 : (j : Int) < (n : Int) := by omega
        have hj0 : (0 : Int) ≤ (j : Int) := by omega
        have hw1 : IntKind.i64.wrap ((S : Int) + 4) = (S : Int) + 4 := IntWalk.i64_in _ (by omega)
        have hw2 : IntKind.i64.wrap ((S : Int) + 4 + (xn : Int)) = (S : Int) + 4 + (xn : Int) := IntWalk.i64_in _ (by omega)
        obtain ⟨W2, hW2⟩ : ∃ W2, wr.alloc (.cells #[.int .i64 xc, .int .i64 xt, .slice xa xn xk] 59) = W2 := ⟨_, rfl⟩
        have rW : W2.heap[wr.heap.size]? = some (.cells #[.int .i64 xc, .int .i64 xt, .slice xa xn xk] 59 (0, 0)) := by rw [← hW2]; exact heap_alloc_new wr _
        have hb2 : Hid (Below W.heap.size W W2) := hide (by rw [← hW2]; exact hb.out.alloc hb.out.size _)
        obtain ⟨x0, x1, x2⟩ := opt_cellsM rW
        have HWW := hide hW2
        clear hc e0 e1 e2 hsay htk hbB hx hcs hcrs has hxn hok hokn hu1 hu2 hI hb hS kk rW hjl hjT hW2
        go_upto_region 8 with (fail)
        rw [HWW.out]
        go_cut [4] from 32 to 55 (fun v wx => v = .bool okn ∧ wx = W2)
        case first =>
          rcases HKK.out with ⟨rfl, rfl⟩ | ⟨rfl, rfl, rfl⟩ | ⟨rfl, rfl, rfl, rfl⟩ | ⟨rfl, rfl, rfl, h4, rfl⟩ | ⟨rfl, rfl, rfl, h4, h5, rfl⟩ | ⟨rfl, rfl, rfl, h4, h5, rfl⟩
          all_goals (
            go_wp2_with (first
              | (go_at_call 40; (with_reducible refine (K1.out _).mono ?_); rintro e w1 ⟨rfl, rfl⟩)
              | (go_at_call 40; (with_reducible refine (K2.out _).mono ?_); rintro e w1 ⟨rfl, rfl⟩)
              | fail)
            go_meet
            exact ⟨by first | rfl | (simp; omega) | fail, rfl⟩)
        case rest =>
          obtain ⟨rfl, hwc⟩ := hcut
          rw [hwc]
          clear hwc HKK K1 K2
          have key : ∀ (S' : Int) (cr' : Int), S' = ((capD (T.l.take (j + 1)) : Nat) : Int) → cr' = critV (T.l.take (j + 1)) → ∃ (j' : Nat) (ok : Bool) (cr : Int), j' ≤ n ∧ Value.int .i64 ((j : Int) + 1) = .int .i64 (j' : Int) ∧ Value.bool okn = .bool ok ∧ Value.int .i64 S' = .int .i64 ((capD (T.l.take j') : Nat) : Int) ∧ Value.int .u8 cr' = .int .u8 cr ∧ Hid (ok = (ok0 && (T.l.take j').all okdG) ∧ cr = critV (T.l.take j')) ∧ Hid (Below W.heap.size W W2) := fun S' cr' h1 h2 => ⟨j + 1, okn, cr', by omega, by push_cast; rfl, rfl, by rw [h1], rfl, hide ⟨HOKN.out, h2⟩, hb2⟩
          have HKEY := hide key
          clear key
          by_cases h252 : (S : Int) ≤ 252
          · have e1 := HCS.out
            rw [if_pos (by omega)] at e1
            have HE1 : Hid ((S : Int) + 4 + (xn : Int) = ((capD (T.l.take (j + 1)) : Nat) : Int)) := hide (by rw [e1]; push_cast; omega)
            clear e1
            by_cases h128 : xt ≥ 128
            · have HE2 : Hid ((64 : Int) = critV (T.l.take (j + 1))) := hide (by unfold critV; rw [HCRS.out]; simp [h128])
              go_wp2
              go_roundw
              case rel => exact HKEY.out _ _ HE1.out HE2.out
              case measure => simp [intOf]; omega
            · have HE2 : Hid (cr = critV (T.l.take (j + 1))) := hide (by rw [HCR.out]; unfold critV; rw [HCRS.out]; simp [h128])
              go_wp2
              go_roundw
              case rel => exact HKEY.out _ _ HE1.out HE2.out
              case measure => simp [intOf]; omega
          · have e1 := HCS.out
            rw [if_neg (by omega)] at e1
            have HE1 : Hid ((S : Int) = ((capD (T.l.take (j + 1)) : Nat) : Int)) := hide (by rw [e1])
            clear e1
            by_cases h128 : xt ≥ 128
            · have HE2 : Hid ((64 : Int) = critV (T.l.take (j + 1))) := hide (by unfold critV; rw [HCRS.out]; simp [h128])
              go_wp2
              go_roundw
              case rel => exact HKEY.out _ _ HE1.out HE2.out
              case measure => simp [intOf]; omega
            · have HE2 : Hid (cr = critV (T.l.take (j + 1))) := hide (by rw [HCR.out]; unfold critV; rw [HCRS.out]; simp [h128])
              go_wp2
              go_roundw
              case rel => exact HKEY.out _ _ HE1.out HE2.out
              case measure => simp [intOf]; omega
      · have hjn : j = n := by omega
        subst hjn
        rw [show T.l.take j = T.l from List.take_of_length_le (by rw [← HLEN.out]; exact Nat.le_refl _)] at hI ⊢
        obtain ⟨hok, hcr⟩ := hI.out
        obtain ⟨d0, d1, d2, d3, d4⟩ := HC.out wr hb.out
        have hRok : rightD T = ok := by
          rw [hok, hok1.out, HUP.out.1, HUP.out.2, HT.out.2.1, HT.out.2.2]
          unfold rightD; rw [Bool.and_assoc]
        have HRO := hide hRok
        have HBW : Hid (Below w.heap.size w wr) := hide (HB.out.trans (hb.out.mono HB.out.size))
        cases ok
        · have HE : Hid (putD T = ([], 1)) := hide (by unfold putD; rw [if_pos HRO.out])
          clear hI hb hok hcr hRok hlt
          go_wp2
          go_ret2
          rw [HE.out]
          exact ⟨none, 0, rfl, OwnB.nil _ _, HBW.out⟩
        · have hcm := capD_max (l := T.l) (M := 140737488355320) HDD.out
          obtain ⟨S, hS⟩ : ∃ S, S = capD T.l := ⟨_, rfl⟩
          rw [← hS] at hcm ⊢
          have HS := hide hS
          by_cases h252 : (S : Int) > 252
          · have HE : Hid (putD T = ([], 3)) := hide (by
              unfold putD
              rw [if_neg (by rw [HRO.out]; simp), if_pos]
              rcases Nat.lt_or_ge 252 (sizeD T.l) with h1 | h1
              · exact h1
              · have := capD_le.1 h1; have := HS.out; omega)
            clear hI hb hok hcr hRok hlt hS
            go_wp2
            go_ret2
            rw [HE.out]
            exact ⟨none, 0, rfl, OwnB.nil _ _, HBW.out⟩
          · have hsz : S = sizeD T.l ∧ sizeD T.l ≤ 252 := by
              rcases Nat.lt_or_ge 252 (sizeD T.l) with h1 | h1
              · have := capD_le.2 h1; omega
              · exact ⟨by rw [hS]; exact capD_le.1 h1, h1⟩
            have hw3 : IntKind.i64.wrap (65527 - (S : Int)) = 65527 - (S : Int) := IntWalk.i64_in _ (by omega)
            have hbl := bytD_len T
            rw [← hsz.1, ← HM.out] at hbl
            by_cases hbig : (m : Int) > 65527 - (S : Int)
            · have HE : Hid (putD T = ([], 3)) := hide (by
                unfold putD
                rw [if_neg (by rw [HRO.out]; simp), if_neg (by omega), if_neg (by omega)])
              clear hI hb hok hcr hRok hlt hS hbl hsz
              go_wp2
              go_ret2
              rw [HE.out]
              exact ⟨none, 0, rfl, OwnB.nil _ _, HBW.out⟩
            · have HE : Hid (putD T = (bytD T, 0)) := hide (by
                unfold putD
                rw [if_neg (by rw [HRO.out]; simp), if_neg (by omega), if_pos (by omega)])
              have hr := HRO.out
              unfold rightD at hr
              simp only [Bool.and_eq_true] at hr
              obtain ⟨hrp, hrv, hall⟩ := hr
              rw [← HT.out.2.1] at hrp
              rw [← HT.out.2.2] at hrv
              obtain ⟨pn, hpn, hp2⟩ := upG_nat hrp
              obtain ⟨vn, hvn, hv2⟩ := upG_nat hrv
              subst hpn hvn
              obtain ⟨F, hF⟩ : ∃ F : Nat, F = (if ou then 128 else 0) + (if critD T.l then 64 else 0) := ⟨_, rfl⟩
              have HFF := hide hF
              have HALL := hide hall
              have HSZ := hide hsz
              have hcrc : critV T.l = if critD T.l then 64 else 0 := rfl
              rw [hcrc] at hcr
              have HBWr := hide hb.out
              clear hI hb hok hRok hlt hS hbl hsz hrp hrv hall hcrc
              go_upto_if 80 with (fail)
              go_cut [6] from 81 to 82 (fun v wx => v = .int .u8 (F : Int) ∧ wx = wr)
              case first =>
                subst hF hcr
                cases ou <;> cases hcd : critD T.l
                all_goals (
                  go_wp2
                  go_meet
                  exact ⟨by rw [hcd]; rfl, rfl⟩)
              case rest =>
                obtain ⟨rfl, hwc⟩ := hcut
                rw [hwc]
                clear hwc hF hcr
                go_upto_region 20 with (fail)
                obtain ⟨L0, hL0⟩ : ∃ L, L = hd8 S F pn vn := ⟨_, rfl⟩
                have hL0l : L0.length = 8 := by rw [hL0]; exact hd8_len _ _ _ _
                have hF2 : F < 256 := by rw [HFF.out]; cases ou <;> cases critD T.l <;> decide
                have hcells := hd8_cells (S := S) (F := F) (p := pn) (v := vn) (by have := HSZ.out; omega) hF2 (by omega) (by omega)
                rw [← hL0] at hcells
                have HBY : Hid (bytD T = L0 ++ (T.l.flatMap optD ++ T.D)) := hide (by
                  rw [hL0]
                  refine bytD_hd HSZ.out.1 ?_ HT.out.2.1.symm HT.out.2.2.symm
                  rw [HFF.out, ← HT.out.1]; unfold flD; cases ou <;> cases critD T.l <;> rfl)
                have hown : OwnB (wr.alloc (.cells #[Value.int .u8 ((S : Int) / 4), .int .u8 (F : Int), .int .u8 ((pn : Int) / 256), .int .u8 ((pn : Int) % 256), .int .u8 ((vn : Int) / 65536), .int .u8 ((vn : Int) / 256 % 256), .int .u8 ((vn : Int) % 256), .int .u8 0] 5)) wr.heap.size (.slice (some ⟨wr.heap.size, 0, none⟩) 8 8) L0 := by
                  unfold OwnB
                  rw [hL0l]
                  have e : L0.map byteV = #[Value.int .u8 ((S : Int) / 4), .int .u8 (F : Int), .int .u8 ((pn : Int) / 256), .int .u8 ((pn : Int) % 256), .int .u8 ((vn : Int) / 65536), .int .u8 ((vn : Int) / 256 % 256), .int .u8 ((vn : Int) % 256), .int .u8 0].toList := by rw [hcells]
                  rw [e]
                  exact World.ownsRow_lit wr _ 8 (Nat.le_refl _) (by unfold maxLen; omega) rfl
                have hb3 : Below wr.heap.size wr (wr.alloc (.cells #[Value.int .u8 ((S : Int) / 4), .int .u8 (F : Int), .int .u8 ((pn : Int) / 256), .int .u8 ((pn : Int) % 256), .int .u8 ((vn : Int) / 65536), .int .u8 ((vn : Int) / 256 % 256), .int .u8 ((vn : Int) % 256), .int .u8 0] 5)) := (Below.refl _ _).alloc (Nat.le_refl _) _
                obtain ⟨W3, hW3⟩ : ∃ W3, W3 = wr.alloc (.cells #[Value.int .u8 ((S : Int) / 4), .int .u8 (F : Int), .int .u8 ((pn : Int) / 256), .int .u8 ((pn : Int) % 256), .int .u8 ((vn : Int) / 65536), .int .u8 ((vn : Int) / 256 % 256), .int .u8 ((vn : Int) % 256), .int .u8 0] 5) := ⟨_, rfl⟩
                rw [← hW3] at hown hb3 ⊢
                obtain ⟨wo, hwo⟩ : ∃ x, x = wr := ⟨_, rfl⟩
                obtain ⟨B0, hB0⟩ : ∃ x, x = wr.heap.size := ⟨_, rfl⟩
                have hbW3 : Below W.heap.size W wr := HBWr.out
                rw [← hB0] at hown hb3 ⊢
                have HO3 : Hid (OwnB W3 B0 (.slice (some ⟨B0, 0, none⟩) 8 8) (L0 ++ (T.l.take 0).flatMap optD)) := hide (by simpa using hown)
                have HB3 := hide hb3
                have HBW3 : Hid (Below W.heap.size W W3) := hide (hbW3.trans (hb3.mono (by rw [hB0]; exact hbW3.size)))
                have HBZ : Hid (B0 ≤ W3.heap.size) := hide (by rw [hB0]; exact hb3.size)
                have HB0 : Hid (W.heap.size ≤ B0) := hide (by rw [hB0]; exact hbW3.size)
                have HL0 := hide hL0l
                clear hown hb3 hW3 hbW3 hwo hB0 hcells hL0 hL0l hF2 d0 d1 d2 d3 d4
                obtain ⟨nn, hnn⟩ : ∃ x, x = j := ⟨_, rfl⟩
                rw [← hnn]
                have HNN : Hid (nn = l0.length ∧ nn = T.l.length ∧ nn ≤ 1048576) := hide ⟨by rw [hnn]; exact HN.out, by rw [hnn]; exact HLEN.out, by omega⟩
                have HC2 := hide (fun (W1 : World) (b : Below W.heap.size W W1) => (by rw [hnn]; exact HC.out W1 b : W1.cell? ⟨w.heap.size, 0, none⟩ = some (.bool ou) ∧ W1.cell? ⟨w.heap.size, 1, none⟩ = some (.int .i64 (pn : Int)) ∧ W1.cell? ⟨w.heap.size, 2, none⟩ = some (.int .i64 (vn : Int)) ∧ W1.cell? ⟨w.heap.size, 3, none⟩ = some (.slice A0 nn c0) ∧ W1.cell? ⟨w.heap.size, 4, none⟩ = some (.slice I0 m k0)))
                have hsm : S ≤ 252 := by have := HSZ.out; omega
                have HFM : Hid (L0.length = 8 ∧ ∀ k, ((T.l.take k).flatMap optD).length ≤ 252) := hide ⟨HL0.out, fun k => by
                  have h1 : ((T.l.take k).flatMap optD).length ≤ (T.l.flatMap optD).length := by
                    have := congrArg (fun l => (l.flatMap optD).length) (List.take_append_drop k T.l)
                    simp only [List.flatMap_append, List.length_append] at this
                    omega
                  have h2 := congrArg List.length HBY.out
                  rw [bytD_len] at h2
                  simp only [List.length_append] at h2
                  have h3 := HSZ.out
                  have h4 := HL0.out
                  omega⟩
                clear hnn HN HLEN HC
                go_wp2
                go_loopw [9, 10, 11] (fun v iv _ wr => ∃ (i : Nat) , i ≤ nn ∧ iv = .int .i64 (i : Int) ∧ Hid (OwnB wr B0 v (L0 ++ (T.l.take i).flatMap optD)) ∧ Hid (Below W.heap.size W wr) ∧ Hid (B0 ≤ wr.heap.size)) (fun _ iv _ _ => nn - (intOf iv).toNat)
                case atStart => exact ⟨0, by omega, rfl, HO3, HBW3, HBZ⟩
                case round =>
                  obtain ⟨i, hi, rfl, hO, hb, hbs⟩ := hrel
                  obtain ⟨-, -, -, d3, d4⟩ := HC2.out wr hb.out
                  by_cases hlt : i < nn
                  · have hjl : i < l0.length := by rw [← HNN.out.1]; exact hlt
                    have hjT : i < T.l.length := by rw [← HNN.out.2.1]; exact hlt
                    obtain ⟨bb, off, rfl, hbB, hc⟩ := HP.out.rd (by omega)
                    obtain ⟨e0, e1, e2⟩ := hc i hjl
                    have hsay := say_get HP.out.say hjl hjT
                    have hob := HP.out.ob l0[i] (List.getElem_mem hjl)
                    have htk := take_snoc hjT
                    have hok := List.all_eq_true.1 HALL.out _ (List.getElem_mem hjT)
                    rw [hsay] at htk hok
                    obtain ⟨x, hx⟩ : ∃ x, x = l0[i] := ⟨_, rfl⟩
                    rw [← hx] at e0 e1 e2 htk hok hob
                    obtain ⟨xc, xt, xa, xk, xd⟩ := x
                    simp only at e0 e1 e2 htk hok hob
                    unfold okdG at hok
                    simp only [Bool.and_eq_true] at hok
                    obtain ⟨hk1, hk2, -, hk4⟩ := hok
                    obtain ⟨cn, hcn, hc2⟩ := upG_nat hk1
                    obtain ⟨tn, htn, ht2⟩ := upG_nat hk2
                    (try simp only at hcn htn hk4)
                    subst hcn htn
                    have hn124 : xd.length ≤ 124 := by simpa using hk4
                    have hoe : optD ((cn : Int), (tn : Int), xd) = od4 cn tn xd.length ++ xd := by unfold optD od4; simp only [Int.toNat_natCast, List.append_assoc]
                    have hnext : L0 ++ (T.l.take (i + 1)).flatMap optD = (L0 ++ (T.l.take i).flatMap optD ++ od4 cn tn xd.length) ++ xd := by
                      rw [htk, List.flatMap_append, List.flatMap_cons, List.flatMap_nil, List.append_nil, hoe]; simp only [List.append_assoc]
                    obtain ⟨xn, hxn⟩ : ∃ k, k = xd.length := ⟨_, rfl⟩
                    rw [← hxn] at e2 hnext hn124
                    have hcl := od4_cells (c := cn) (t := tn) (n := xn) (by omega) (by omega) hn124
                    obtain ⟨o4, ho4⟩ : ∃ x, x = od4 cn tn xn := ⟨_, rfl⟩
                    have ho4l : o4.length = 4 := by rw [ho4]; simp [od4, length_numBytes]
                    rw [← ho4] at hcl hnext
                    obtain ⟨P, hP⟩ : ∃ x, x = L0 ++ (T.l.take i).flatMap optD := ⟨_, rfl⟩
                    have hPl : P.length ≤ 260 := by rw [hP, List.length_append]; have h1 := HFM.out.1; have h2 := HFM.out.2 i; omega
                    rw [← hP] at hnext hO
                    have HNX := hide hnext
                    have HXN := hide hxn
                    have HPL := hide (And.intro hPl ho4l)
                    have f0 : wr.cell? ⟨bb, off + i * 3, none⟩ = some (.int .i64 (cn : Int)) := (hb.out.cell (show (⟨bb, off + i * 3, none⟩ : Addr).block < W.heap.size from hbB)).trans e0
                    have f1 : wr.cell? ⟨bb, off + i * 3 + 1, none⟩ = some (.int .i64 (tn : Int)) := (hb.out.cell (show (⟨bb, off + i * 3 + 1, none⟩ : Addr).block < W.heap.size from hbB)).trans e1
                    have f2 : wr.cell? ⟨bb, off + i * 3 + 2, none⟩ = some (.slice xa xn xk) := (hb.out.cell (show (⟨bb, off + i * 3 + 2, none⟩ : Addr).block < W.heap.size from hbB)).trans e2
                    obtain ⟨W2, hW2⟩ : ∃ W2, wr.alloc (.cells #[.int .i64 (cn : Int), .int .i64 (tn : Int), .slice xa xn xk] 59) = W2 := ⟨_, rfl⟩
                    have rW : W2.heap[wr.heap.size]? = some (.cells #[.int .i64 (cn : Int), .int .i64 (tn : Int), .slice xa xn xk] 59 (0, 0)) := by rw [← hW2]; exact heap_alloc_new wr _
                    have bl2 : Below wr.heap.size wr W2 := by rw [← hW2]; exact (Below.refl _ _).alloc (Nat.le_refl _) _
                    have hb2 : Hid (Below W.heap.size W W2) := hide (hb.out.trans (bl2.mono hb.out.size))
                    have hO2 : Hid (OwnB W2 B0 u9 P) := hide (by rw [← hW2]; exact hO.out.alloc _)
                    obtain ⟨x0, x1, x2⟩ := opt_cellsM rW
                    have HBS : Hid (B0 ≤ W2.heap.size ∧ B0 ≤ wr.heap.size ∧ wr.heap.size < W2.heap.size) := hide ⟨Nat.le_trans hbs.out bl2.size, hbs.out, by rw [← hW2]; simp⟩
                    have HRW := hide rW
                    have HXD : Hid (Byt W W.heap.size xa xd ∧ (xa = none → xk = 0)) := hide ⟨hob.1, hob.2.1⟩
                    have HNE : Hid (∀ k, u9.ownBlock = some k → B0 ≤ k ∧ k < wr.heap.size) := hide (fun k e => World.ownsRow.lt hO.out k e)
                    have HCL := hide hcl
                    have hj1 : (i : Int) < (nn : Int) := by omega
                    have hj0 : (0 : Int) ≤ (i : Int) := by omega
                    have HWW := hide hW2
                    clear hc e0 e1 e2 hsay htk hbB hx hob hk1 hk2 hk4 hoe hnext hxn hcl hW2 bl2 rW hO hb hbs d4 hP hPl ho4 ho4l hjl hjT
                    go_upto_region 24 with (fail)
                    rw [HWW.out]
                    clear f0 f1 f2 d3
                    go_wp2_with (at_builtin; refine wpList_app_bytes rfl (.tmp 118) (.tmp 134) rfl B0 u9 P o4 (W2.heap.size + 1) 4 (some ⟨W2.heap.size, 0, none⟩) (by rfl) (by rw [HPL.out.2]; rfl) (by exact hO2.out.alloc _) (by exact Byt.lit W2 o4 _ _ (0, 0) HCL.out) (fun e => by cases e) (by have := HPL.out; omega) (by have := HBS.out; simp; omega) ?_)
                    intro v5 w5 hown5 hgr5 hat5
                    have bla : Below W2.heap.size W2 (W2.alloc (.cells #[Value.int .u8 ((cn : Int) / 256), .int .u8 ((cn : Int) % 256), .int .u8 (tn : Int), .int .u8 ((xn : Int) / 4)] 5)) := (Below.refl _ _).alloc (Nat.le_refl _) _
                    have hb5 : Below W.heap.size W w5 := (hb2.out.trans (bla.mono hb2.out.size)).grown hgr5 (Nat.le_trans hb2.out.size bla.size) (fun k e => by have h1 := HNE.out k e; have h2 := HB0.out; omega)
                    have r5 : w5.heap[wr.heap.size]? = some (.cells #[.int .i64 (cn : Int), .int .i64 (tn : Int), .slice xa xn xk] 59 (0, 0)) := (hgr5.block wr.heap.size (Nat.lt_of_lt_of_le HBS.out.2.2 bla.size) (fun e => by have := HNE.out _ e.symm; omega)).trans ((bla.block wr.heap.size HBS.out.2.2).trans HRW.out)
                    have HB5 := hide hb5
                    have HO5 := hide hown5
                    have HS5 : Hid (B0 ≤ w5.heap.size) := hide (by have h1 := HBS.out.1; have h2 := bla.size; have h3 := hgr5.size; omega)
                    have z2 := (opt_cellsM r5).2.2
                    clear hown5 hgr5 hat5 bla hb5 r5 x0 x1 x2
                    go_wp2_with (at_builtin; refine wpList_app_bytes rfl (.tmp 136) (.tmp 138) rfl B0 v5 (P ++ o4) xd W.heap.size xk xa (by rfl) (by rw [← HXN.out]; rfl) (by exact HO5.out) (by exact HXD.out.1.below HB5.out) HXD.out.2 (by have h1 := HPL.out; have h2 := HXN.out; simp only [List.length_append]; omega) HS5.out ?_)
                    intro v6 w6 hown6 hgr6 hat6
                    have hb6 : Hid (Below W.heap.size W w6) := hide (HB5.out.grown hgr6 HB5.out.size (fun k e => by have h1 := (World.ownsRow.lt HO5.out k e).1; have h2 := HB0.out; omega))
                    have hs6 : Hid (B0 ≤ w6.heap.size) := hide (Nat.le_trans HS5.out hgr6.size)
                    have HO6 := hide hown6
                    clear hown6 hgr6 hat6 z2
                    have hi20 : i ≤ 1048576 := by have := HNN.out.2.2; omega
                    go_wp2
                    go_roundw
                    case rel => exact ⟨i + 1, by omega, by go_num, hide (by rw [HNX.out, List.append_assoc]; exact HO6.out), hb6, hs6⟩
                    case measure => simp [intOf]; omega
                  · have hin : i = nn := by omega
                    subst hin
                    rw [show T.l.take i = T.l from List.take_of_length_le (by rw [← HNN.out.2.1]; exact Nat.le_refl _)] at hO
                    have hbl := congrArg List.length HBY.out
                    rw [bytD_len] at hbl
                    have hPl : (L0 ++ T.l.flatMap optD).length ≤ 260 := by
                      have h1 := HSZ.out
                      simp only [List.length_append] at hbl ⊢
                      omega
                    obtain ⟨P, hP⟩ : ∃ x, x = L0 ++ T.l.flatMap optD := ⟨_, rfl⟩
                    rw [← hP] at hO hPl
                    have HPP : Hid (bytD T = P ++ T.D) := hide (by rw [HBY.out, hP, List.append_assoc])
                    have HID : Hid (Byt wr W.heap.size I0 T.D ∧ (I0 = none → k0 = 0)) := hide ⟨HP.out.i.below hb.out, HP.out.inn⟩
                    have hDm := HD.out
                    have HPL : Hid (P.length + T.D.length ≤ 140737488355328) := hide (by have h2 := HM.out; omega)
                    clear hbl hPl hP hlt hDm
                    go_wp2_with (at_builtin; refine wpList_app_bytes rfl (.tmp 140) (.tmp 142) rfl B0 u9 P T.D W.heap.size k0 I0 (by rfl) (by rw [← HM.out]; rfl) (by exact hO.out) (by exact HID.out.1) HID.out.2 HPL.out hbs.out ?_)
                    intro v6 w6 hown6 hgr6 hat6
                    have hb6 : Hid (Below w.heap.size w w6) := hide (HB.out.trans ((hb.out.grown hgr6 hb.out.size (fun k e => by have h1 := (World.ownsRow.lt hO.out k e).1; have h2 := HB0.out; omega)).mono HB.out.size))
                    obtain ⟨A6, c6, hv6, -⟩ := hown6.shape
                    subst hv6
                    have hown7 : OwnB w6 w.heap.size (.slice A6 (P ++ T.D).length c6) (P ++ T.D) := by
                      refine ⟨hown6.1, hown6.2.imp id fun ⟨g, cap, cur, h1, h2, h3⟩ => ⟨g, cap, cur, h1, ?_, h3⟩⟩
                      have h4 := HB0.out; have h5 := HB.out.size; omega
                    have HO7 := hide hown7
                    clear hown6 hgr6 hat6 hown7
                    go_wp2
                    go_ret2
                    rw [HE.out, HPP.out]
                    exact ⟨A6, c6, rfl, HO7.out, hb6.out⟩
end Go.Proofs.YtihakjcccbionaaGreatDoor
