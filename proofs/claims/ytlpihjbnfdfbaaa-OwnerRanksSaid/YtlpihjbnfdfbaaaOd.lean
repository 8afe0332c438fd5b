/-
  The walks of owner's count and claimsOf: how many claims go behind one; the claims of replicas.
-/
import Derived.Test.YtlpihjbnfdfbaaaOc
import Derived.StillTailTactics
import Derived.WalkSmall
namespace Go.Proofs.Ytlpihjbnfdfbaaa
open Go.RowKit
set_option linter.unusedVariables false
set_option maxRecDepth 100000

/-- the claims of replicas as cells. -/
def clCells (K : Nat → Nat) (l : List Nat) : List Value := l.flatMap fun (n : Nat) => [.int .i64 (n : Int), .int .u64 (K n : Int)]
theorem clCells_snoc (K : Nat → Nat) (l : List Nat) (n : Nat) : clCells K (l ++ [n]) = clCells K l ++ [.int .i64 (n : Int), .int .u64 (K n : Int)] := by simp [clCells]
theorem clCells_len (K : Nat → Nat) (l : List Nat) : (clCells K l).length = l.length * 2 := by
  induction l with
  | nil => rfl
  | cons a l ih => rw [clCells, List.flatMap_cons, ← clCells, List.length_append, ih]; simp; omega
theorem clCells_get (K : Nat → Nat) : ∀ (l : List Nat) (j : Nat) (h : j < l.length), (clCells K l)[j * 2]? = some (.int .i64 (l[j] : Int)) ∧ (clCells K l)[j * 2 + 1]? = some (.int .u64 (K l[j] : Int))
  | [], j, h => by simp at h
  | x :: t, 0, _ => ⟨rfl, rfl⟩
  | x :: t, j + 1, h => by
    have := clCells_get K t j (by simp at h; omega)
    rw [clCells, List.flatMap_cons, ← clCells, show (j + 1) * 2 = j * 2 + 2 from by omega, show j * 2 + 2 + 1 = j * 2 + 1 + 2 from by omega]
    simpa using this
theorem ret_q {w : World} {n : Nat} {w' : World} (h : Below w.heap.size w w') {m : Int} (hm : m = (n : Int)) : (Ending.returned (.int .i64 m) = .returned (.int .i64 (n : Int))) ∧ Below w.heap.size w w' := ⟨by rw [hm], h⟩
/-- the slice that begins at A reads, below block B, as the claims of l. -/
def ClS (w : World) (B : Nat) (A : Option Addr) (K : Nat → Nat) (l : List Nat) : Prop :=
  0 < l.length → ∃ b off, A = some ⟨b, off, none⟩ ∧ b < B ∧ ∀ i (h : i < l.length), w.cell? ⟨b, off + i * 2, none⟩ = some (.int .i64 (l[i] : Int)) ∧ w.cell? ⟨b, off + i * 2 + 1, none⟩ = some (.int .u64 (K l[i] : Int))
theorem ClS.keep {w w' : World} {B : Nat} {A : Option Addr} {K : Nat → Nat} {l : List Nat} (h : ClS w B A K l) (hk : ∀ p : Addr, p.block < B → w'.cell? p = w.cell? p) : ClS w' B A K l := fun hl => by
  obtain ⟨b, off, e, hb, hc⟩ := h hl
  exact ⟨b, off, e, hb, fun i hi => ⟨(hk _ hb).trans (hc i hi).1, (hk _ hb).trans (hc i hi).2⟩⟩
theorem ClS.below {w w' : World} {B B' : Nat} {A : Option Addr} {K : Nat → Nat} {l : List Nat} (h : ClS w B A K l) (hb : Below B' w w') (hB : B ≤ B') : ClS w' B A K l := h.keep fun _ hp => hb.cell (Nat.lt_of_lt_of_le hp hB)
theorem ClS.more {w : World} {B B' : Nat} {A : Option Addr} {K : Nat → Nat} {l : List Nat} (h : ClS w B A K l) (hB : B ≤ B') : ClS w B' A K l := fun hl => by
  obtain ⟨b, off, e, hb, hc⟩ := h hl
  exact ⟨b, off, e, by omega, hc⟩
theorem row_claims {w : World} {base : Nat} {e : TypeId} {v : Value} {K : Nat → Nat} {l : List Nat} (h : w.ownsRow base e 2 v l.length (clCells K l)) : ∃ A c, v = .slice A l.length c ∧ l.length ≤ c ∧ ClS w w.heap.size A K l := by
  rcases h.2 with ⟨rfl, h0⟩ | ⟨gg, cap, cur, rfl, hb, hg, hn, hm, hsz, ht⟩
  · exact ⟨none, 0, by rw [h0], by omega, fun hp => by omega⟩
  · refine ⟨some ⟨gg, 0, none⟩, cap, rfl, hn, fun _ => ⟨gg, 0, rfl, (Array.getElem?_eq_some_iff.1 hg).1, fun i hi => ?_⟩⟩
    obtain ⟨h1, h2⟩ := clCells_get K l i hi
    have hc : ∀ i, i < l.length * 2 → w.cell? ⟨gg, i, none⟩ = (clCells K l)[i]? := fun i hi => World.ownsRow.cellAt (g := gg) (cap := cap) h i hi
    rw [Nat.zero_add]
    exact ⟨(hc _ (by omega)).trans h1, (hc _ (by omega)).trans h2⟩

def CntPost (w : World) (n : Nat) (e : Ending) (w' : World) : Prop := e = .returned (.int .i64 (n : Int)) ∧ Below w.heap.size w w'

set_option maxHeartbeats 4000000 in
theorem ocount_any (w : World) (B : Nat) (A : Option Addr) (c : Nat) (K : Nat → Nat) (l : List Nat) (a : Nat) (hl : l.length ≤ 16) (hB : B ≤ w.heap.size) (hb : ClS w B A K l) :
    Calls Try.prog 41 #[.slice A l.length c, .func (.func 42) #[clV a (K a)] #[]] w (CntPost w (posL K l a)) := by
  obtain ⟨n, hn⟩ : ∃ n, n = l.length := ⟨_, rfl⟩
  have HN := hide hn
  have HB := hide hb
  rw [← hn] at hl ⊢
  clear hn hb
  have KB := hide (fun W b => behind_any W a b (K a) (K b))
  have HP : Hid (∀ k, posT K l a k ≤ k) := hide (posT_le K l a)
  unfold clV at *
  go_enter Try.func41, Try.ntmps41
  go_wp2
  go_loopw [5, 10] (fun u v wr => ∃ k : Nat, k ≤ n ∧ u = .int .i64 (posT K l a k : Int) ∧ v = .int .i64 (k : Int) ∧ Hid (Below w.heap.size w wr)) (fun _ v _ => n - (intOf v).toNat)
  case atStart => exact ⟨0, by omega, by rw [posT_zero]; rfl, rfl, hide (Below.refl _ _)⟩
  case round =>
    obtain ⟨k, hk, rfl, rfl, hbel⟩ := hrel
    by_cases hlt : k < n
    · have hkl : k < l.length := by rw [← HN.out]; exact hlt
      have hp1 := HP.out k
      have hps := posT_succ K l a hkl
      have hB2 := HB.out.below hbel.out hB
      obtain ⟨b, off, rfl, hbB, hc⟩ := hB2 (by omega)
      obtain ⟨h1, h2⟩ := hc k hkl
      obtain ⟨q, hq⟩ : ∃ q, q = posT K l a k := ⟨_, rfl⟩
      obtain ⟨x, hx⟩ : ∃ x, x = l[k] := ⟨_, rfl⟩
      rw [← hx] at h1 h2 hps
      rw [← hq] at hp1 hps ⊢
      obtain ⟨y, hy⟩ : ∃ y, y = K x := ⟨_, rfl⟩
      rw [← hy] at h2
      have KB1 : Hid (∀ W, Calls Try.prog 42 #[.agg #[.int .i64 (a : Int), .int .u64 (K a : Int)], .agg #[.int .i64 (x : Int), .int .u64 (y : Int)]] W (FirstPost W (.bool (bef K x a)))) := hide (fun W => by rw [hy]; exact KB.out W x)
      obtain ⟨r, hr⟩ : ∃ r, r = bef K x a := ⟨_, rfl⟩
      rw [← hr] at KB1 hps
      have hbs := hbel.out.size
      have HPS := hide hps
      clear hc hB2 hx hq hr hy hps
      cases r
      · go_wp2_with (first | ((with_reducible refine (KB1.out _).mono ?_); rintro e w1 ⟨rfl, hb1⟩; have B1 := hide (hbel.out.trans (((Below.refl _ _).alloc (Nat.le_refl _) _).trans (hb1.mono (by simp)) |>.mono hbs)); clear hb1) | fail)
        go_roundw
        case rel => exact ⟨k + 1, by omega, by rw [HPS.out]; rfl, by go_num, B1⟩
        case measure => simp [intOf]; omega
      · go_wp2_with (first | ((with_reducible refine (KB1.out _).mono ?_); rintro e w1 ⟨rfl, hb1⟩; have B1 := hide (hbel.out.trans (((Below.refl _ _).alloc (Nat.le_refl _) _).trans (hb1.mono (by simp)) |>.mono hbs)); clear hb1) | fail)
        go_roundw
        case rel => exact ⟨k + 1, by omega, by rw [HPS.out]; go_num, by go_num, B1⟩
        case measure => simp [intOf]; omega
    · obtain rfl : k = n := by omega
      have HF : Hid (CntPost w (posL K l a) (.returned (.int .i64 (posT K l a k : Int))) wr) := hide ⟨by rw [HN.out, posT_all], hbel.out⟩
      clear hlt hbel
      go_wp2
      go_ret
      exact HF.out

def ClaimsPost (w : World) (K : Nat → Nat) (l : List Nat) (e : Ending) (w' : World) : Prop := ∃ v, e = .returned v ∧ w'.ownsRow w.heap.size 78 2 v l.length (clCells K l) ∧ Below w.heap.size w w'
theorem info_cl : (Try.prog.info? 78).map (fun i => (i.zero, i.size, i.bytes)) = some (some (.agg #[.int .i64 0, .int .u64 0]), 2, 16) := by kernel_rfl
theorem built_cl (a b : Int) : Try.prog.built 78 [(0, .int .i64 a), (1, .int .u64 b)] = some #[.int .i64 a, .int .u64 b] := by kernel_rfl

set_option maxHeartbeats 4000000 in
theorem claimsOf_any (w : World) (B : Nat) (A : Option Addr) (c : Nat) (l : List Nat) (h : BitVec 64) (hl : l.length ≤ 16) (hlt16 : ∀ x ∈ l, x < 16) (hB : B ≤ w.heap.size) (hb : IntS w B A (natI l)) :
    Calls Try.prog 40 #[.slice A l.length c, .int .u64 (h.toNat : Int)] w (ClaimsPost w (kN h) l) := by
  obtain ⟨n, hn⟩ : ∃ n, n = l.length := ⟨_, rfl⟩
  have HN := hide hn
  have HB := hide hb
  have H16 := hide hlt16
  rw [← hn] at hl ⊢
  clear hn hb hlt16
  have KP := hide (fun W a ha => pairk_any W a h ha)
  obtain ⟨K, hK⟩ : ∃ K, K = kN h := ⟨_, rfl⟩
  rw [← hK] at KP ⊢
  obtain ⟨N, hN⟩ : ∃ N, N = h.toNat := ⟨_, rfl⟩
  rw [← hN] at KP ⊢
  clear hK hN
  obtain ⟨i0, hi, hz0, hz1, hz2⟩ := info_parts info_cl
  go_enter Try.func40, Try.ntmps40
  go_wp2
  go_loopw [5, 10] (fun u v wr => ∃ k : Nat, k ≤ n ∧ v = .int .i64 (k : Int) ∧ Hid (wr.ownsRow w.heap.size 78 2 u k (clCells K (l.take k))) ∧ Hid (Below w.heap.size w wr)) (fun _ v _ => n - (intOf v).toNat)
  case atStart => exact ⟨0, by omega, rfl, hide (by rw [List.take_zero]; exact World.ownsRow_nil _ _ _ _), hide (Below.refl _ _)⟩
  case round =>
    obtain ⟨k, hk, rfl, hown, hbel⟩ := hrel
    by_cases hlt : k < n
    · have hkl : k < l.length := by rw [← HN.out]; exact hlt
      have hB2 := HB.out.below hbel.out hB
      obtain ⟨b, off, rfl, hbB, hc⟩ := hB2 (by rw [natI_len]; omega)
      have h1 := hc k (by rw [natI_len]; exact hkl)
      rw [natI_at] at h1
      have hT : clCells K (l.take (k + 1)) = clCells K (l.take k) ++ [.int .i64 (l[k] : Int), .int .u64 (K l[k] : Int)] := by rw [List.take_succ_eq_append_getElem hkl, clCells_snoc]
      have hx16 := H16.out l[k] (List.getElem_mem hkl)
      obtain ⟨x, hx⟩ : ∃ x, x = l[k] := ⟨_, rfl⟩
      rw [← hx] at h1 hT hx16
      have KP1 := hide (fun W => KP.out W x hx16)
      have wx : IntKind.u64.wrap (x : Int) = (x : Int) := Go.IntWalk.u64_in _ (by omega)
      have hbc := built_cl (x : Int) (K x : Int)
      have HT := hide hT
      have hbs := hide hbel.out.size
      clear hc hB2 hx hx16 hT
      have hO := hide (World.ownsRow.alloc hown.out (.cells #[.int .i64 (x : Int), .int .u64 (K x : Int)] 78))
      have hNw : Hid (0 < 1 → ∃ b off, (some ⟨wr.heap.size, 0, none⟩ : Option Addr) = some ⟨b, off, none⟩ ∧ ∀ j u, [Value.int .i64 (x : Int), Value.int .u64 (K x : Int)][j]? = some u → (wr.alloc (.cells #[.int .i64 (x : Int), .int .u64 (K x : Int)] 78)).cell? ⟨b, off + j, none⟩ = some u) := hide fun _ => ⟨_, _, rfl, fun j u hj => by
        rw [cell_of_row _ wr.heap.size _ _ _ _ (heap_alloc_new wr _), Nat.zero_add]; simpa using hj⟩
      have hZ : Hid (w.heap.size ≤ (wr.alloc (.cells #[.int .i64 (x : Int), .int .u64 (K x : Int)] 78)).heap.size) := hide (by have := hbs.out; simp; omega)
      go_wp2_with (first
        | ((with_reducible refine (KP1.out _).mono ?_); rintro e w1 ⟨rfl, rfl⟩)
        | (at_builtin; refine wpList_app_two rfl (.tmp 14) (.tmp 21) w.heap.size 75 78 i0 _ 16 rfl Try.underlying75 hi hz0 hz1 hz2 rfl _ k (clCells K (l.take k)) (some ⟨wr.heap.size, 0, none⟩) 1 1 [Value.int .i64 (x : Int), Value.int .u64 (K x : Int)] rfl rfl hO.out rfl hNw.out (fun e => by cases e) (by simp [Value.oneCell']) (by unfold maxLen; omega) (by omega) hZ.out ?_)
        | fail)
      intro v5 w5 hown5 hgrow5 hat5
      rw [← HT.out] at hown5
      have HO5 := hide hown5
      have HB5 : Hid (Below w.heap.size w w5) := hide ((hbel.out.alloc hbs.out _).grown hgrow5 hZ.out (fun g hg => (World.ownsRow.lt hown.out g hg).1))
      clear hown5 hgrow5 hat5 hO hZ hown hbel
      go_wp2
      go_roundw
      case rel => exact ⟨k + 1, by omega, by go_num, HO5, HB5⟩
      case measure => simp [intOf]; omega
    · obtain rfl : k = n := by omega
      have HF : Hid (∀ v, wr.ownsRow w.heap.size 78 2 v k (clCells K (l.take k)) → ClaimsPost w K l (.returned v) wr) := hide fun v h => by
        rw [List.take_of_length_le (by rw [HN.out]; exact Nat.le_refl _)] at h
        exact ⟨v, rfl, by rw [← HN.out]; exact h, hbel.out⟩
      clear hlt hbel
      go_wp2
      go_ret
      exact HF.out _ hown.out
end Go.Proofs.Ytlpihjbnfdfbaaa
