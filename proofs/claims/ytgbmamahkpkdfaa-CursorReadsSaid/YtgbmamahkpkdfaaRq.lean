/-
  The walk of the document's own Run.
-/
import Derived.Test.YtgbmamahkpkdfaaRt
import Derived.Test.YtgbmamahkpkdfaaApp2
import Derived.Deep.CutBlock
namespace Go.Proofs.Ytgbmamahkpkdfaa
open Go.RowKit
set_option maxRecDepth 100000
set_option linter.unusedVariables false

/-- the slice value vv owns, from block 'base' on, a row of things that were read, in the document's own form. -/
structure OwnW (w : World) (base : Nat) (vv : Value) (l : List VItem) : Prop where
  row : w.ownsRow base 112 2 vv l.length (itemCells l)
  each : ∀ it ∈ l, OwnB w base it.v it.b

theorem OwnW.base {w : World} {B B' : Nat} {vv : Value} {items : List VItem} (h : OwnW w B vv items) (hB : B' ≤ B) : OwnW w B' vv items := by
  refine ⟨⟨h.row.1, ?_⟩, fun it hit => (h.each it hit).base hB⟩
  rcases h.row.2 with e | ⟨g, cap, cur, e, hb, rest⟩
  · exact .inl e
  · exact .inr ⟨g, cap, cur, e, Nat.le_trans hB hb, rest⟩
theorem OwnW.drewN {w : World} {B : Nat} {vv : Value} {items : List VItem} (h : OwnW w B vv items) (k : Nat) : OwnW (w.drewN k) B vv items := ⟨h.row, h.each⟩
theorem num_piece (l : List UInt8) (k : Nat) (sz : Int) : (∃ N m, pieceS l k 0 sz = .got N [] m ∧ numQ l k 0 sz = (k + m, N, 0)) ∨ (∃ er : Nat, er ≠ 0 ∧ pieceS l k 0 sz = .gave er ∧ numQ l k 0 sz = (k, 0, (er : Int))) := by
  have e : numQ l k 0 sz = ((numR l k sz).1, (numR l k sz).2.1, ((numR l k sz).2.2 : Int)) := by unfold numQ; rw [if_neg (by simp)]
  rw [e]
  unfold numR
  rcases hp : pieceS l k 0 sz with ⟨N, b, m⟩ | er
  · have hb : b = [] := by
      unfold pieceS at hp
      rw [if_pos rfl] at hp
      repeat' split at hp
      all_goals cases hp
      rfl
    subst hb
    exact .inl ⟨N, m, rfl, rfl⟩
  · exact .inr ⟨er, pieceS_gave hp, rfl, rfl⟩
theorem take_piece (l : List UInt8) (k : Nat) (sz : Int) : (∃ m, pieceS l k 1 sz = .got 0 ((l.drop k).take m) m ∧ pieceS l k 2 sz = .got 0 [] m ∧ takeQ l k 0 sz = (k + m, (l.drop k).take m, 0)) ∨ (∃ er : Nat, er ≠ 0 ∧ pieceS l k 1 sz = .gave er ∧ pieceS l k 2 sz = .gave er ∧ takeQ l k 0 sz = (k, [], (er : Int))) := by
  unfold takeQ fitE pieceS
  by_cases h0 : sz < 0
  · refine .inr ⟨1, by decide, ?_⟩
    simp [h0, show ¬ 0 ≤ sz by omega]
  · by_cases h1 : sz ≤ (l.length : Int) - k
    · refine .inl ⟨sz.toNat, ?_⟩
      simp [h0, h1, show 0 ≤ sz by omega, show ¬ ((l.length : Int) - k < sz) by omega]
    · refine .inr ⟨10, by decide, ?_⟩
      simp [h0, h1, show 0 ≤ sz by omega, show ((l.length : Int) - k < sz) by omega]
theorem zero_piece (l : List UInt8) (k : Nat) (sz : Int) : (∃ m, pieceS l k 3 sz = .got 0 [] m ∧ zeroQ l k 0 sz = (k + m, 0)) ∨ (∃ er : Nat, er ≠ 0 ∧ pieceS l k 3 sz = .gave er ∧ zeroQ l k 0 sz = (k, (er : Int))) := by
  unfold zeroQ fitE pieceS
  by_cases h0 : sz < 0
  · refine .inr ⟨1, by decide, ?_⟩
    simp [h0, show ¬ 0 ≤ sz by omega]
  · by_cases h1 : sz ≤ (l.length : Int) - k
    · by_cases h2 : ((l.drop k).take sz.toNat).all (fun x => x == 0) = true
      · refine .inl ⟨sz.toNat, ?_⟩
        rw [if_neg (by decide), if_neg (by decide), if_neg (by decide), if_pos rfl, if_neg h0, if_pos h1, if_pos h2]
        refine ⟨rfl, ?_⟩
        rw [if_pos (by rw [if_neg (by simp), if_neg (by simp; omega), if_neg (by omega)]), if_pos h2]
      · refine .inr ⟨11, by decide, ?_⟩
        rw [if_neg (by decide), if_neg (by decide), if_neg (by decide), if_pos rfl, if_neg h0, if_pos h1, if_neg h2]
        refine ⟨rfl, ?_⟩
        rw [if_pos (by rw [if_neg (by simp), if_neg (by simp; omega), if_neg (by omega)]), if_neg h2]; rfl
    · refine .inr ⟨10, by decide, ?_⟩
      simp [h0, h1, show 0 ≤ sz by omega, show ((l.length : Int) - k < sz) by omega]
theorem rest_piece (l : List UInt8) (k : Nat) (hk : k ≤ l.length) : pieceS l k 4 0 = .got 0 (l.drop k) (l.length - k) ∧ takeQ l k 0 ((l.length : Int) - (k : Int)) = (k + (l.length - k), l.drop k, 0) := by
  constructor
  · rfl
  · unfold takeQ fitE
    have e : ((l.length : Int) - (k : Int)).toNat = l.length - k := by omega
    rw [if_pos (by simp; omega), e, List.take_of_length_le (by rw [List.length_drop]; exact Nat.le_refl _)]

/-- what a piece leaves in the walk of the document's own Run. -/
def SwQ (l : List UInt8) (k : Nat) (kd sz : Int) (g : Nat) (A' : Option Addr) (c' : Nat) (wr wx : World) : Prop :=
  ∃ (N : Nat) (v : Value) (b : List UInt8) (k' : Nat) (er' : Int), wx.heap[wr.heap.size]? = some (.cells #[.int .u64 (N : Int), v] 112 (0, 0)) ∧ Rr wx g A' l.length c' k' er' ∧ k' ≤ l.length ∧ OwnB wx wr.heap.size v b ∧ wr.grownBy wx (some g) ∧
    ((er' = 0 ∧ ∃ m, k' = k + m ∧ pieceS l k kd sz = .got N b m) ∨ (∃ er : Nat, er ≠ 0 ∧ er' = (er : Int) ∧ k' = k ∧ pieceS l k kd sz = .gave er))
theorem sw_set {wr w7 : World} {g V i : Nat} (h : wr.grownBy w7 (some g)) (hV : wr.heap.size ≤ V) (u : Value) : wr.grownBy (w7.setCell ⟨V, i, none⟩ u) (some g) :=
  ⟨h.os, h.tape, h.output, by simpa using h.size, fun n hn hr => (Below.heap_setCell w7 ⟨V, i, none⟩ u n (by show n ≠ V; omega)).trans (h.block n hn hr)⟩
theorem sw_own {w7 : World} {B V i : Nat} {v u : Value} {b : List UInt8} (h : OwnB w7 B v b) (hV : V < B) : OwnB (w7.setCell ⟨V, i, none⟩ u) B v b := h.kept (grown_set w7 V i u) (by
  rcases h.2 with ⟨e, _⟩ | ⟨g', cap, cur, e, hbg, _⟩
  · exact .inl (by rw [e]; rfl)
  · exact .inr (by rw [e]; simp [Value.ownBlock]; omega))

set_option maxHeartbeats 4000000 in
theorem refrun_any (w : World) (A Al : Option Addr) (l : List UInt8) (c cl : Nat) (ops : List (Int × Int)) (hl : l.length ≤ c) (hn : l.length ≤ 140737488355328) (hb : Byt w w.heap.size A l) (hnil : A = none → c = 0)
    (hops : Ops w w.heap.size Al ops) (hno : ops.length ≤ 1099511627776) :
    Calls Try.prog 18 #[.slice A l.length c, .slice Al ops.length cl] w fun e w' => ∃ vv items, e = .returned (.tuple #[vv, .int .i64 ((runS l ops 0).2.1 : Int), .int .i64 ((runS l ops 0).2.2 : Int)]) ∧
      OwnW w' w.heap.size vv items ∧ items.map (fun it => (it.N, it.b)) = (runS l ops 0).1 ∧ Below w.heap.size w w' := by
  obtain ⟨res, hres⟩ : ∃ res, res = runS l ops 0 := ⟨_, rfl⟩
  rw [← hres]
  have HRES := hide hres
  have HN := hide hn
  have C := hide (ofq_any w w.heap.size A l c hn hb (Nat.le_refl _) hnil)
  clear hres hb
  go_enter Try.func18, Try.ntmps18
  go_wp2_with fail
  refine C.out.mono ?_
  rintro e w1 ⟨g, A', c', rfl, hR, hby, hl', hnil', hg, hb1⟩
  have HB1 := hide hb1
  have HR1 := hide hR
  have HBY := hide hby
  have HNIL := hide hnil'
  have HG := hide hg
  clear C hb1 hR hby hnil' hg
  go_wp2_with fail
  go_loopw [8, 9] (fun v i wr => ∃ (j k : Nat) (items : List VItem), j ≤ ops.length ∧ i = .int .i64 (j : Int) ∧ k ≤ l.length ∧ Hid (OwnW wr w1.heap.size v items) ∧ Hid (Rr wr g A' l.length c' k 0) ∧ Hid (w1.grownBy wr (some g)) ∧ items.length = j ∧
      Hid (res = (items.map (fun it => (it.N, it.b)) ++ (runS l (ops.drop j) k).1, (runS l (ops.drop j) k).2))) (fun _ i _ => ops.length - (intOf i).toNat)
  case atStart => exact ⟨0, 0, [], by omega, rfl, by omega, hide ⟨World.ownsRow_nil _ _ _ _, fun it hit => by simp at hit⟩, HR1, hide (World.grownBy.refl _ _), rfl, hide (by rw [List.drop_zero]; exact HRES.out)⟩
  case round =>
    obtain ⟨j, k, items, hj, rfl, hk, hrow, hR, hgr, hlen, hrest⟩ := hrel
    by_cases hlt : j < ops.length
    · obtain ⟨bo, oo, hAl, hbo, hco⟩ := hops (by omega)
      subst hAl
      obtain ⟨ho0, ho1⟩ := hco j hlt
      obtain ⟨kd, hkd⟩ : ∃ kd, kd = ops[j].1 := ⟨_, rfl⟩
      obtain ⟨sz, hsz⟩ : ∃ sz, sz = ops[j].2 := ⟨_, rfl⟩
      rw [← hkd] at ho0
      rw [← hsz] at ho1
      have hbo1 : bo < w1.heap.size := by have := HB1.out.size; omega
      have hbog : bo ≠ g := by have := HG.out; omega
      have hk0 : wr.cell? ⟨bo, oo + j * 2, none⟩ = some (.int .i64 kd) := hgr.out.cell ((HB1.out.cell (by exact hbo)).trans ho0) (by simp; omega)
      have hk1 : wr.cell? ⟨bo, oo + j * 2 + 1, none⟩ = some (.int .i64 sz) := hgr.out.cell ((HB1.out.cell (by exact hbo)).trans ho1) (by simp; omega)
      have hbor : bo < wr.heap.size := by have := hgr.out.size; omega
      have hgl : g < wr.heap.size := hR.out.lt
      have hdrop : ops.drop j = (kd, sz) :: ops.drop (j + 1) := by rw [List.drop_eq_getElem_cons hlt, hkd, hsz]
      have hrest' := hrest.out
      rw [hdrop, runS] at hrest'
      have HREST := hide hrest'
      have hbyr : Byt wr g A' l := HBY.out.row hgr.out
      have HBYR := hide hbyr
      have HSZ : Hid (kd = ops[j].1 ∧ sz = ops[j].2) := hide ⟨hkd, hsz⟩
      clear hco ho0 ho1 hkd hsz hdrop hrest hrest' hbyr
      have hj0 : (0 : Int) ≤ (j : Int) := by omega
      have hj1 : (j : Int) < (ops.length : Int) := by omega
      obtain ⟨W6, hW6⟩ : ∃ W6, W6 = wr.alloc (.cells #[.int .u64 0, .slice none 0 0] 112) := ⟨_, rfl⟩
      have hg6 : wr.grownBy W6 (some g) := by rw [hW6]; exact World.grownBy_alloc wr _ _
      have hV6 : W6.heap[wr.heap.size]? = some (.cells #[.int .u64 0, .slice none 0 0] 112 (0, 0)) := by rw [hW6]; exact heap_alloc_new wr _
      have hs6 : W6.heap.size = wr.heap.size + 1 := by rw [hW6]; simp
      have hR6 : Rr W6 g A' l.length c' k 0 := by rw [hW6]; exact hR.out.alloc _
      have hB6 : Byt W6 g A' l := HBYR.out.row hg6
      have hkeep : ∀ w', W6.grownBy w' (some g) → w'.heap[wr.heap.size]? = some (.cells #[.int .u64 0, .slice none 0 0] 112 (0, 0)) ∧ w'.cell? ⟨bo, oo + j * 2, none⟩ = some (.int .i64 kd) ∧ w'.cell? ⟨bo, oo + j * 2 + 1, none⟩ = some (.int .i64 sz) ∧ wr.grownBy w' (some g) := fun w' hg =>
        ⟨(hg.block _ (by omega) (by simp; omega)).trans hV6, hg.cell (hg6.cell hk0 (by simp; omega)) (by simp; omega), hg.cell (hg6.cell hk1 (by simp; omega)) (by simp; omega), grown_trans hg6 hg⟩
      have HKEEP := hide hkeep
      obtain ⟨-, k60, k61, -⟩ := hkeep W6 (World.grownBy.refl _ _)
      have HS6 := hide hs6
      have HR6 := hide hR6
      have HB6 := hide hB6
      have HG6 := hide hg6
      have HGL : Hid (g < wr.heap.size) := hide hgl
      have HK : Hid (k ≤ l.length) := hide hk
      have HL' : Hid (l.length ≤ c') := hide hl'
      clear hkeep hs6 hR6 hB6 hg6
      go_upto_block 2 with (fail)
      rw [← hW6]
      clear hW6
      go_cut [11] from 25 to 85 (fun x wx => SwQ l k kd sz g A' c' wr wx)
      case first =>
        by_cases h0 : kd = 0
        · subst h0
          have cnum := hide (numq_any W6 g A' l c' k 0 sz HR6.out HK.out HL'.out HN.out HB6.out)
          obtain ⟨q, hq⟩ : ∃ q, q = numQ l k 0 sz := ⟨_, rfl⟩
          rw [← hq] at cnum
          have hP := num_piece l k sz
          rw [← hq] at hP
          have HP := hide hP
          clear hP hq
          go_wp2_with (go_at_call 27; refine cnum.out.mono ?_; rintro e w7 ⟨rfl, hR7, hg7⟩; obtain ⟨v7, a0, a1, g7⟩ := HKEEP.out w7 hg7; have d0 := cell_of_row w7 _ 0 _ _ (0, 0) v7; have d1 := cell_of_row w7 _ 1 _ _ (0, 0) v7; have f0 := frozen_of_row w7 _ 0 _ _ v7; have f1 := frozen_of_row w7 _ 1 _ _ v7)
          go_meet
          have hk' : q.1 ≤ l.length := by
            rcases HP.out with ⟨N, m, hp, rfl⟩ | ⟨er, _, _, rfl⟩
            · exact pieceS_le hp HK.out
            · exact HK.out
          refine ⟨q.2.1, .slice none 0 0, [], q.1, q.2.2, heap_setCell_same w7 _ 0 _ _ _ v7, hR7.kept (Below.heap_setCell _ _ _ g (by show g ≠ wr.heap.size; have := HGL.out; omega)), hk', OwnB.nil _ _, sw_set g7 (Nat.le_refl _) _, ?_⟩
          rcases HP.out with ⟨N, m, hp, rfl⟩ | ⟨er, hne, hp, rfl⟩
          · exact .inl ⟨rfl, m, rfl, hp⟩
          · exact .inr ⟨er, hne, rfl, rfl, hp⟩
        have h0i : (kd == 0) = false := by simpa using h0
        have ctake := hide (fun sz => takeq_any W6 g A' l c' k 0 sz HR6.out HK.out HL'.out HN.out HB6.out HNIL.out)
        by_cases h1 : kd = 1
        · subst h1
          have hP := take_piece l k sz
          obtain ⟨q, hq⟩ : ∃ q, q = takeQ l k 0 sz := ⟨_, rfl⟩
          have ct := hide (ctake.out sz)
          rw [← hq] at ct hP
          have HP := hide hP
          clear hP hq ctake
          go_wp2_with (go_at_call 29; refine ct.out.mono ?_; rintro e w7 ⟨⟨x7, rfl, hO7⟩, hR7, hg7⟩; obtain ⟨A7, c7, rfl, -⟩ := hO7.shape; obtain ⟨v7, a0, a1, g7⟩ := HKEEP.out w7 hg7; have d0 := cell_of_row w7 _ 0 _ _ (0, 0) v7; have d1 := cell_of_row w7 _ 1 _ _ (0, 0) v7; have f0 := frozen_of_row w7 _ 0 _ _ v7; have f1 := frozen_of_row w7 _ 1 _ _ v7)
          go_meet
          have hk' : q.1 ≤ l.length := by
            rcases HP.out with ⟨m, hp, _, rfl⟩ | ⟨er, _, _, _, rfl⟩
            · exact pieceS_le hp HK.out
            · exact HK.out
          refine ⟨0, _, q.2.1, q.1, q.2.2, heap_setCell_same w7 _ 1 _ _ _ v7, hR7.kept (Below.heap_setCell _ _ _ g (by show g ≠ wr.heap.size; have := HGL.out; omega)), hk', (sw_own hO7 (by rw [HS6.out]; omega)).base (by rw [HS6.out]; omega), sw_set g7 (Nat.le_refl _) _, ?_⟩
          rcases HP.out with ⟨m, hp, _, rfl⟩ | ⟨er, hne, hp, _, rfl⟩
          · exact .inl ⟨rfl, m, rfl, hp⟩
          · exact .inr ⟨er, hne, rfl, rfl, hp⟩
        have h1i : (kd == 1) = false := by simpa using h1
        by_cases h2 : kd = 2
        · subst h2
          have hP := take_piece l k sz
          obtain ⟨q, hq⟩ : ∃ q, q = takeQ l k 0 sz := ⟨_, rfl⟩
          have ct := hide (ctake.out sz)
          rw [← hq] at ct hP
          have HP := hide hP
          clear hP hq ctake
          go_wp2_with (go_at_call 29; refine ct.out.mono ?_; rintro e w7 ⟨⟨x7, rfl, hO7⟩, hR7, hg7⟩; obtain ⟨v7, a0, a1, g7⟩ := HKEEP.out w7 hg7; have d0 := cell_of_row w7 _ 0 _ _ (0, 0) v7; have d1 := cell_of_row w7 _ 1 _ _ (0, 0) v7; have f0 := frozen_of_row w7 _ 0 _ _ v7; have f1 := frozen_of_row w7 _ 1 _ _ v7)
          go_meet
          have hk' : q.1 ≤ l.length := by
            rcases HP.out with ⟨m, hp, _, rfl⟩ | ⟨er, _, _, _, rfl⟩
            · exact pieceS_le hp HK.out
            · exact HK.out
          refine ⟨0, .slice none 0 0, [], q.1, q.2.2, v7, hR7, hk', OwnB.nil _ _, g7, ?_⟩
          rcases HP.out with ⟨m, _, hp, rfl⟩ | ⟨er, hne, _, hp, rfl⟩
          · exact .inl ⟨rfl, m, rfl, hp⟩
          · exact .inr ⟨er, hne, rfl, rfl, hp⟩
        have h2i : (kd == 2) = false := by simpa using h2
        by_cases h3 : kd = 3
        · subst h3
          have hP := zero_piece l k sz
          have cz := hide (zeroq_any W6 g A' l c' k 0 sz HR6.out HK.out HL'.out HN.out HB6.out)
          obtain ⟨q, hq⟩ : ∃ q, q = zeroQ l k 0 sz := ⟨_, rfl⟩
          rw [← hq] at cz hP
          have HP := hide hP
          clear hP hq ctake
          go_wp2_with (go_at_call 32; refine cz.out.mono ?_; rintro e w7 ⟨rfl, hR7, hg7⟩; obtain ⟨v7, a0, a1, g7⟩ := HKEEP.out w7 hg7; have d0 := cell_of_row w7 _ 0 _ _ (0, 0) v7; have d1 := cell_of_row w7 _ 1 _ _ (0, 0) v7; have f0 := frozen_of_row w7 _ 0 _ _ v7; have f1 := frozen_of_row w7 _ 1 _ _ v7)
          go_meet
          have hk' : q.1 ≤ l.length := by
            rcases HP.out with ⟨m, hp, rfl⟩ | ⟨er, _, _, rfl⟩
            · exact pieceS_le hp HK.out
            · exact HK.out
          refine ⟨0, .slice none 0 0, [], q.1, q.2, v7, hR7, hk', OwnB.nil _ _, g7, ?_⟩
          rcases HP.out with ⟨m, hp, rfl⟩ | ⟨er, hne, hp, rfl⟩
          · exact .inl ⟨rfl, m, rfl, hp⟩
          · exact .inr ⟨er, hne, rfl, rfl, hp⟩
        have h3i : (kd == 3) = false := by simpa using h3
        by_cases h4 : kd = 4
        · subst h4
          by_cases hz : sz = 0
          · subst hz
            have hP := rest_piece l k HK.out
            have ct := hide (ctake.out ((l.length : Int) - (k : Int)))
            rw [hP.2] at ct
            have HP := hide hP.1
            have e1 := HR6.out.c1
            have hsb : IntKind.i64.wrap ((l.length : Int) - (k : Int)) = (l.length : Int) - (k : Int) := by rw [IntKind.wrap_i64]; have := HK.out; have := HN.out; omega
            clear hP ctake
            go_wp2_with (go_at_call 29; refine ct.out.mono ?_; rintro e w7 ⟨⟨x7, rfl, hO7⟩, hR7, hg7⟩; obtain ⟨A7, c7, rfl, -⟩ := hO7.shape; rw [List.length_drop] at hO7; obtain ⟨v7, a0, a1, g7⟩ := HKEEP.out w7 hg7; have d0 := cell_of_row w7 _ 0 _ _ (0, 0) v7; have d1 := cell_of_row w7 _ 1 _ _ (0, 0) v7; have f0 := frozen_of_row w7 _ 0 _ _ v7; have f1 := frozen_of_row w7 _ 1 _ _ v7)
            go_meet
            refine ⟨0, _, l.drop k, k + (l.length - k), 0, heap_setCell_same w7 _ 1 _ _ _ v7, hR7.kept (Below.heap_setCell _ _ _ g (by show g ≠ wr.heap.size; have := HGL.out; omega)), (by have := HK.out; omega), (sw_own hO7 (show wr.heap.size < W6.heap.size from by rw [HS6.out]; exact Nat.lt_succ_self _)).base (show wr.heap.size ≤ W6.heap.size from by rw [HS6.out]; exact Nat.le_succ _), sw_set g7 (Nat.le_refl _) _, .inl ⟨rfl, _, rfl, HP.out⟩⟩
          · have hzi : (sz != 0) = true := by simpa using hz
            have hp : pieceS l k 4 sz = .gave 1 := by unfold pieceS; rw [if_neg (by decide), if_neg (by decide), if_neg (by decide), if_neg (by decide), if_pos rfl, if_neg hz]
            have HP := hide hp
            have d2 := HR6.out.c2
            have f2 := HR6.out.fr 2
            obtain ⟨W7, hW7⟩ : ∃ W7, W7 = W6.setCell ⟨g, 2, none⟩ (.int .i64 1) := ⟨_, rfl⟩
            have hg67 : W6.grownBy W7 (some g) := by rw [hW7]; exact grown_set W6 g 2 _
            have hR7 : Rr W7 g A' l.length c' k 1 := by rw [hW7]; exact HR6.out.setE 1
            have ct := hide (takeq_any W7 g A' l c' k 1 ((l.length : Int) - (k : Int)) hR7 HK.out HL'.out HN.out (HB6.out.row hg67) HNIL.out)
            have hT : takeQ l k 1 ((l.length : Int) - (k : Int)) = (k, [], 1) := by unfold takeQ fitE; simp
            rw [hT] at ct
            have e1 := hR7.c1
            have HG67 := hide hg67
            have hsb : IntKind.i64.wrap ((l.length : Int) - (k : Int)) = (l.length : Int) - (k : Int) := by rw [IntKind.wrap_i64]; have := HK.out; have := HN.out; omega
            have HS7 : Hid (W7.heap.size = W6.heap.size) := hide (by rw [hW7]; simp)
            rw [hW7] at e1 ct
            clear hp ctake hT hg67 hR7
            go_wp2_with (go_at_call 29; refine ct.out.mono ?_; rintro e w7 ⟨⟨x7, rfl, hO7⟩, hR7, hg7'⟩; have hg7 := grown_trans (grown_set W6 g 2 (.int .i64 1)) hg7'; obtain ⟨A7, c7, rfl, -⟩ := hO7.shape; obtain ⟨v7, a0, a1, g7⟩ := HKEEP.out w7 hg7; have d0 := cell_of_row w7 _ 0 _ _ (0, 0) v7; have d1 := cell_of_row w7 _ 1 _ _ (0, 0) v7; have f0 := frozen_of_row w7 _ 0 _ _ v7; have f1 := frozen_of_row w7 _ 1 _ _ v7)
            go_meet
            refine ⟨0, _, [], k, 1, heap_setCell_same w7 _ 1 _ _ _ v7, hR7.kept (Below.heap_setCell _ _ _ g (by show g ≠ wr.heap.size; have := HGL.out; omega)), HK.out, (sw_own hO7 (by have h1 := HS6.out; have h2 := HS7.out; rw [hW7] at h2; exact Nat.lt_of_lt_of_eq (show wr.heap.size < W6.heap.size by omega) h2.symm)).base (by have h1 := HS6.out; have h2 := HS7.out; rw [hW7] at h2; exact Nat.le_trans (show wr.heap.size ≤ W6.heap.size by omega) (Nat.le_of_eq h2.symm)), sw_set g7 (Nat.le_refl _) _, .inr ⟨1, by decide, rfl, rfl, HP.out⟩⟩
        have h4i : (kd == 4) = false := by simpa using h4
        have d2 := HR6.out.c2
        have f2 := HR6.out.fr 2
        have hR7 := HR6.out.setE 1
        have hp : pieceS l k kd sz = .gave 1 := by unfold pieceS; rw [if_neg h0, if_neg h1, if_neg h2, if_neg h3, if_neg h4]
        have HP := hide hp
        have HR7 := hide hR7
        have HV7 : Hid ((W6.setCell ⟨g, 2, none⟩ (.int .i64 1)).heap[wr.heap.size]? = some (.cells #[.int .u64 0, .slice none 0 0] 112 (0, 0))) := hide ((Below.heap_setCell _ _ _ _ (by show wr.heap.size ≠ g; have := HGL.out; omega)).trans hV6)
        have HG7 := hide (grown_trans HG6.out (grown_set W6 g 2 (.int .i64 1)))
        clear hp hR7 ctake
        go_wp2_with fail
        go_meet
        exact ⟨0, .slice none 0 0, [], k, 1, HV7.out, HR7.out, HK.out, OwnB.nil _ _, HG7.out, .inr ⟨1, by decide, rfl, rfl, HP.out⟩⟩
      case rest =>
        obtain ⟨N, v, b, k', er', hVx, hRx, hkx, hOx, hgx, hcase⟩ := hcut
        have d2 := hRx.c2
        have hrowx : Hid (OwnW wc w1.heap.size u8 items) := hide ⟨hrow.out.row.kept hgx (own_ne hrow.out.row hR.out.blk (by decide)), fun it hit => (hrow.out.each it hit).kept hgx (own_ne (hrow.out.each it hit) hR.out.blk (by decide))⟩
        have HGX : Hid (w1.grownBy wc (some g)) := hide (grown_trans hgr.out hgx)
        have HBW : Hid (Below w.heap.size w wc) := hide (by
          have h1 := HB1.out
          have h2 := HGX.out
          have h3 := HG.out
          exact h1.trans ⟨h2.os, h2.tape, h2.output, h2.size, fun i hi => h2.block i (by have := h1.size; omega) (by simp; omega)⟩)
        have HRX := hide hRx
        have HOX := hide hOx
        have HVX := hide hVx
        have HWR : Hid (w1.heap.size ≤ wr.heap.size) := hide hgr.out.size
        rcases hcase with ⟨rfl, m, rfl, hp⟩ | ⟨er, hne, rfl, rfl, hp⟩
        · have hr2 := HREST.out
          rw [hp] at hr2
          have HR2 := hide hr2
          obtain ⟨Ai, ci, hvi, -⟩ := hOx.shape
          subst hvi
          obtain ⟨i0, hi0, hz0, hz1, hz2⟩ := info_parts info_refval
          clear hp hr2 hRx hOx hgx hrow hR hgr HREST
          have hc0 := cell_of_row wc _ 0 _ _ (0, 0) HVX.out
          have hc1 := cell_of_row wc _ 1 _ _ (0, 0) HVX.out
          have hlit : (wc.alloc (.cells #[.int .u64 (N : Int), .slice Ai b.length ci] 112)).heap[wc.heap.size]? = some (.cells #[.int .u64 (N : Int), .slice Ai b.length ci] 112 (0, 0)) := heap_alloc_new wc _
          have HLIT := hide hlit
          have HIL : Hid (items.length = j) := hide hlen
          have hszc : w1.heap.size ≤ wc.heap.size := HGX.out.size
          have HSZC := hide hszc
          clear hlit hVx hlen hszc
          go_wp2_with (at_builtin; refine wpList_app_two rfl (.tmp 100) (.tmp 102) w1.heap.size 31 112 i0 _ 32 rfl Try.underlying31 hi0 hz0 hz1 hz2 rfl u8 items.length (itemCells items) (some ⟨wc.heap.size, 0, none⟩) 1 1 [.int .u64 (N : Int), .slice Ai b.length ci] rfl rfl (by exact hrowx.out.row.alloc _) rfl (fun _ => ⟨wc.heap.size, 0, rfl, fun n u hu => by rw [cell_of_row _ _ (0 + n) _ _ (0, 0) HLIT.out, Nat.zero_add]; simpa using hu⟩) (fun e => by cases e) (fun u hu => by simp at hu; rcases hu with rfl | rfl <;> rfl) (by have := HIL.out; unfold maxLen; omega) (by have := HIL.out; omega) (by have := HSZC.out; simp; omega) ?_)
          intro v4 w4 hown4 hgr4 hat4
          have hgr5 : wc.grownBy w4 u8.ownBlock := grown_trans (World.grownBy_alloc wc _ _) hgr4
          have hnb : ∀ i, u8.ownBlock = some i → w1.heap.size ≤ i := fun i hi => (World.ownsRow.lt hrowx.out.row i hi).1
          have hne : u8.ownBlock = none ∨ u8.ownBlock ≠ some g := own_ne hrowx.out.row HRX.out.blk (by decide)
          have hR4 : Rr w4 g A' l.length c' (k + m) 0 := HRX.out.grown hgr5 (by rcases hne with e | e <;> simp [e])
          have hG4 : w1.grownBy w4 (some g) := by
            have h1 := HGX.out
            exact ⟨hgr5.os.trans h1.os, hgr5.tape.trans h1.tape, hgr5.output.trans h1.output, Nat.le_trans h1.size hgr5.size, fun i hi hr => (hgr5.block i (Nat.lt_of_lt_of_le hi h1.size) (fun e => by have := hnb i e.symm; omega)).trans (h1.block i hi hr)⟩
          have hO4 : OwnW w4 w1.heap.size v4 (items ++ [⟨N, .slice Ai b.length ci, b⟩]) := by
            refine ⟨?_, fun it hit => ?_⟩
            · rw [List.length_append, itemCells_snoc]; exact hown4
            · rcases List.mem_append.1 hit with h | h
              · exact (hrowx.out.each it h).kept hgr5 (own_own_ne (hrowx.out.each it h) hrowx.out.row (by decide))
              · simp at h
                subst h
                exact ((HOX.out).kept hgr5 (own_own_ne HOX.out hrowx.out.row (by decide))).base HWR.out
          have H1 := hide hR4
          have H2 := hide hG4
          have H3 := hide hO4
          clear hown4 hgr4 hat4 hgr5 hnb hne hR4 hG4 hO4 hc0 hc1 d2
          go_wp2
          go_roundw
          case rel =>
            refine ⟨j + 1, k + m, items ++ [⟨N, .slice Ai b.length ci, b⟩], by omega, by go_num, hkx, H3, H1, H2, by have := HIL.out; simp; omega, hide ?_⟩
            rw [HR2.out]
            simp
          case measure => simp [intOf]; omega
        · have hei : ((er : Int) != 0) = true := by simp; omega
          have hr2 := HREST.out
          rw [hp] at hr2
          have HR2 := hide hr2
          have d1 := hRx.c1
          clear hp hr2 hRx hOx hgx hrow hR hgr HREST
          go_wp2
          go_quiet (fail)
          go_wp2
          go_ret3
          have hr3 := HR2.out
          simp only [List.append_nil] at hr3
          refine ⟨u8, items, by rw [hr3]; rfl, ?_, by rw [hr3], ?_⟩
          · exact (hrowx.out.base HB1.out.size).drewN _
          · exact below_drewN HBW.out _
    · obtain rfl : j = ops.length := by omega
      have hr3 := hrest.out
      rw [List.drop_of_length_le (Nat.le_refl _)] at hr3
      have hr4 : res = (items.map (fun it => (it.N, it.b)), k, 0) := by rw [hr3]; simp [runS]
      have HR4 := hide hr4
      have HBW : Hid (Below w.heap.size w wr) := hide (by
        have h1 := HB1.out
        have h2 := hgr.out
        have h3 := HG.out
        exact h1.trans ⟨h2.os, h2.tape, h2.output, h2.size, fun i hi => h2.block i (by have := h1.size; omega) (by simp; omega)⟩)
      have d1 := hR.out.c1
      clear hr3 hr4 hlt
      go_wp2
      go_quiet (fail)
      go_wp2
      go_ret3
      refine ⟨u8, items, by rw [HR4.out]; rfl, (hrow.out.base HB1.out.size).drewN _, by rw [HR4.out], below_drewN HBW.out _⟩
end Go.Proofs.Ytgbmamahkpkdfaa
