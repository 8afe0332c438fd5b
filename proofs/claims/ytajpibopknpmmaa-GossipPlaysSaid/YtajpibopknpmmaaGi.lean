/-
  What is told now: the queue's pick.
-/
import Derived.Test.YtajpibopknpmmaaGe
import Derived.Test.YtajpibopknpmmaaGf
import Derived.Test.YtajpibopknpmmaaGg
namespace Go.Proofs.Ytajpibopknpmmaa
open Go.RowKit
set_option maxRecDepth 100000
set_option linter.unusedVariables false
set_option linter.unusedSimpArgs false
attribute [local go_sem ↓] exec_span exec_put exec_build heap_alloc_new heap_old
attribute [local go_sem] spanQ_ptr spanC_some heap_of_drew heap_of_drewN putAt_ptr putOk_ptr oldOk_some World.setRow_alloc_new rs_wait rs_queue rs_Queue field0_wait field1_wait

theorem orderQ_any (w : World) (q : Nat) : Calls Try.prog 37 #[.pointer (some ⟨q, 0, none⟩)] w fun e w' =>
    e = .returned (.func (.func 44) #[] #[.pointer (some ⟨w.heap.size, 0, none⟩)]) ∧ w' = w.alloc (.cells #[.pointer (some ⟨q, 0, none⟩)] 71) := by
  go_enter Try.func37, Try.ntmps37
  go_wp2
  go_ret
  exact ⟨rfl, rfl⟩
theorem row_keepT {A B : World} {lb : Nat} {v u : Value} {base n s : Nat} {e : TypeId} {xs : List Value} (h : A.ownsRow base e s u n xs) (k : KeepT lb v A B) (h1 : u.ownBlock ≠ some lb) (h2 : u.ownBlock = none ∨ u.ownBlock ≠ v.ownBlock) : B.ownsRow base e s u n xs := by
  refine ⟨h.1, ?_⟩
  rcases h.2 with ⟨e1, h0⟩ | ⟨g, cap, cur, e1, hb, hg, hr⟩
  · exact .inl ⟨e1, h0⟩
  · refine .inr ⟨g, cap, cur, e1, hb, ?_, hr⟩
    have hne : v.ownBlock ≠ some g := by
      rw [e1] at h2
      rcases h2 with h2 | h2
      · simp [Value.ownBlock] at h2
      · exact fun e => h2 e.symm
    have hnl : g ≠ lb := by
      rw [e1] at h1
      simpa [Value.ownBlock] using h1
    exact (k.block g (Array.getElem?_eq_some_iff.1 hg).1 hnl hne).trans hg
theorem NewsR.at {w : World} {base : Nat} {v : Value} {l : List (Int × List UInt8)} (h : NewsR w base v l) : ∀ k, v.ownBlock = some k → base ≤ k ∧ k < w.heap.size := by
  obtain ⟨cs, h1, -⟩ := h
  exact World.ownsRow.lt h1
theorem NewsR.grown {w w' : World} {base r : Nat} {v : Value} {l : List (Int × List UInt8)} (h : NewsR w base v l) (hg : w.grownBy w' (some r)) (hr : r < base) : NewsR w' base v l := by
  obtain ⟨cs, h1, h2⟩ := h
  have hne : ∀ {e n s : Nat} {u : Value} {xs : List Value}, w.ownsRow base e s u n xs → u.ownBlock = none ∨ u.ownBlock ≠ some r := fun {e n s u xs} h => by
    cases hu : u.ownBlock with
    | none => exact .inl rfl
    | some k =>
      refine .inr fun e => ?_
      cases e
      have := (World.ownsRow.lt h _ hu).1
      omega
  exact ⟨cs, World.ownsRow.kept h1 hg (hne h1), h2.mono fun u m h => h.kept hg (hne h)⟩
/-- how the blocks of a queue stand to where the news go. -/
structure Apart (q mb lb base : Nat) (S : Nat → Prop) : Prop where
  q : q < base ∧ q ≠ lb
  m : mb < base ∧ mb ≠ lb
  l : lb < base
  s : ∀ g, S g → g < base ∧ g ≠ lb ∧ g ≠ mb
theorem QueS.keepT {A B : World} {q mb lb base : Nat} {most : Int} {L : List (Int × Nw)} {S : Nat → Prop} {v : Value} (h : QueS A q mb most L S) (k : KeepT lb v A B) (ap : Apart q mb lb base S) (hv : ∀ g, v.ownBlock = some g → base ≤ g) : QueS B q mb most L S := by
  refine h.keep (fun i hi hl => k.block i hl ?_ (fun e => ?_)) k.size (fun _ hg => hg)
  · rcases hi with rfl | rfl | hi
    · exact ap.q.2
    · exact ap.m.2
    · exact (ap.s i hi).2.1
  · have := hv i e
    rcases hi with rfl | rfl | hi
    · have := ap.q.1; omega
    · have := ap.m.1; omega
    · have := (ap.s i hi).1; omega
/-- in the midst of a pick. -/
structure PickI (w0 wr : World) (q mb lb base : Nat) (most : Int) (S : Nat → Prop) (ks : List Int) (kv : Value) (room0 : Int) (L0 : List (Int × Nw)) (j : Nat) (room : Int) (L : List (Int × Nw)) (l : List (Int × List UInt8)) : Prop where
  que : QueS wr q mb most L S
  box : ∃ v, wr.heap[lb]? = some (.cells #[v] 37 (0, 0)) ∧ NewsR wr base v l
  row : OwnR wr base 3 kv (ks.map izV)
  os : wr.os = w0.os
  tape : wr.tape = w0.tape
  output : wr.output = w0.output
  size : base ≤ wr.heap.size
  keep : ∀ i, i < base → i ≠ lb → i ≠ mb → wr.heap[i]? = w0.heap[i]?
  has : ∀ k ∈ ks.drop j, hasQ L k = true
  rest : pickQ ks room0 L0 = (l ++ (pickQ (ks.drop j) room L).1, (pickQ (ks.drop j) room L).2)
  room : -9223372036854775808 ≤ room ∧ room ≤ 9223372036854775807
  few : l.length ≤ j
theorem pickQ_skip {k : Int} {t : List Int} {room : Int} {L : List (Int × Nw)} (h : room < ((dataQ L k).length : Int)) : pickQ (k :: t) room L = pickQ t room L := by
  conv => lhs; unfold pickQ
  rw [if_pos h]
theorem pickQ_take {k : Int} {t : List Int} {room : Int} {L : List (Int × Nw)} (h : ¬ room < ((dataQ L k).length : Int)) :
    pickQ (k :: t) room L = ((k, dataQ L k) :: (pickQ t (room - ((dataQ L k).length : Int)) (toldQ k L)).1, (pickQ t (room - ((dataQ L k).length : Int)) (toldQ k L)).2) := by
  conv => lhs; unfold pickQ
  rw [if_neg h]
theorem PickI.skip {w0 wr : World} {q mb lb base : Nat} {most : Int} {S : Nat → Prop} {ks : List Int} {kv : Value} {room0 : Int} {L0 : List (Int × Nw)} {j : Nat} {room : Int} {L : List (Int × Nw)} {l : List (Int × List UInt8)}
    (h : PickI w0 wr q mb lb base most S ks kv room0 L0 j room L l) (hj : j < ks.length) (hd : room < ((dataQ L ks[j]).length : Int)) : PickI w0 wr q mb lb base most S ks kv room0 L0 (j + 1) room L l := by
  have hdr := List.drop_eq_getElem_cons hj
  refine ⟨h.que, h.box, h.row, h.os, h.tape, h.output, h.size, h.keep, fun k hk => h.has k (by rw [hdr]; exact List.mem_cons_of_mem _ hk), ?_, h.room, Nat.le_succ_of_le h.few⟩
  have := h.rest
  rw [hdr, pickQ_skip hd] at this
  exact this
theorem PickI.take {w0 wr w1 w2 : World} {q mb lb base : Nat} {most : Int} {S : Nat → Prop} {ks : List Int} {kv v v' : Value} {room0 : Int} {L0 : List (Int × Nw)} {j : Nat} {room : Int} {L : List (Int × Nw)} {l : List (Int × List UInt8)}
    (h : PickI w0 wr q mb lb base most S ks kv room0 L0 j room L l) (hj : j < ks.length) (hnd : ks.Nodup) (hd : ¬ room < ((dataQ L ks[j]).length : Int)) (ap : Apart q mb lb base S)
    (hb : wr.heap[lb]? = some (.cells #[v] 37 (0, 0))) (hr : NewsR wr base v l) (k1 : KeepT lb v wr w1) (b1 : w1.heap[lb]? = some (.cells #[v'] 37 (0, 0))) (r1 : NewsR w1 base v' (l ++ [(ks[j], dataQ L ks[j])]))
    (q2 : QueS w2 q mb most (toldQ ks[j] L) S) (g2 : w1.grownBy w2 (some mb)) : PickI w0 w2 q mb lb base most S ks kv room0 L0 (j + 1) (room - ((dataQ L ks[j]).length : Int)) (toldQ ks[j] L) (l ++ [(ks[j], dataQ L ks[j])]) := by
  have hdr := List.drop_eq_getElem_cons hj
  have hlt1 : lb < w1.heap.size := (Array.getElem?_eq_some_iff.1 b1).1
  have row1 : OwnR w1 base 3 kv (ks.map izV) := row_keepT h.row k1 (own_neT h.row hb (by decide)) (by
    obtain ⟨cs, hc, -⟩ := hr
    exact own_ne2 h.row hc (by decide))
  have row2 : OwnR w2 base 3 kv (ks.map izV) := row1.kept g2 (by
    cases hu : kv.ownBlock with
    | none => exact .inl rfl
    | some k =>
      refine .inr fun e => ?_
      cases e
      have := (World.ownsRow.lt row1 _ hu).1
      have := ap.m.1
      omega)
  have hsz : base ≤ w1.heap.size := Nat.le_trans h.size k1.size
  refine ⟨q2, ⟨v', (g2.block lb hlt1 (fun e => ap.m.2 (by cases e; rfl))).trans b1, r1.grown g2 ap.m.1⟩, row2, g2.os.trans (k1.os.trans h.os), g2.tape.trans (k1.tape.trans h.tape), g2.output.trans (k1.output.trans h.output), Nat.le_trans hsz g2.size, ?_, ?_, ?_, ?_, ?_⟩
  · intro i hi h1 h2
    have h3 : v.ownBlock ≠ some i := fun e => by have := (hr.at i e).1; omega
    exact (g2.block i (by omega) (fun e => h2 (by cases e; rfl))).trans ((k1.block i (by have := h.size; omega) h1 h3).trans (h.keep i hi h1 h2))
  · intro k hk
    have hk2 : k ≠ ks[j] := fun e => by
      have h9 : (ks.drop j).Nodup := hnd.sublist (List.drop_sublist _ _)
      rw [hdr, List.nodup_cons] at h9
      exact h9.1 (by rw [← e]; exact hk)
    rw [(leftQ_other h.que.ok hk2).2.2]
    exact h.has k (by rw [hdr]; exact List.mem_cons_of_mem _ hk)
  · have := h.rest
    rw [hdr, pickQ_take hd] at this
    rw [this, List.append_assoc]; rfl
  · have := h.room; omega
  · rw [List.length_append]; have := h.few; simp; omega
/-- behind a pick. -/
def PickP (w : World) (q mb lb base : Nat) (most : Int) (S : Nat → Prop) (l : List (Int × List UInt8)) (L : List (Int × Nw)) (w' : World) : Prop :=
  (∃ v, w'.heap[lb]? = some (.cells #[v] 37 (0, 0)) ∧ NewsR w' base v l) ∧ QueS w' q mb most L S ∧ w'.os = w.os ∧ w'.tape = w.tape ∧ w'.output = w.output ∧ w.heap.size ≤ w'.heap.size ∧ ∀ i, i < base → i ≠ lb → i ≠ mb → w'.heap[i]? = w.heap[i]?
set_option maxHeartbeats 8000000 in
theorem pickq_any (w : World) (q mb lb : Nat) (most : Int) (L : List (Int × Nw)) (S : Nat → Prop) (room : Int) (h : QueS w q mb most L S) (hlen : L.length ≤ 4096) (ap : Apart q mb lb w.heap.size S) (hb : w.heap[lb]? = some (.cells #[.slice none 0 0] 37 (0, 0)))
    (hroom : -9223372036854775808 ≤ room ∧ room ≤ 9223372036854775807) :
    Calls Try.prog 29 #[.pointer (some ⟨q, 0, none⟩), .int .i64 room, .func (.func 30) #[] #[.pointer (some ⟨lb, 0, none⟩)]] w fun e w' =>
      e = .returned (.tuple #[]) ∧ PickP w q mb lb w.heap.size most S (pickQ (ordQ L (L.map (·.1))) room L).1 (pickQ (ordQ L (L.map (·.1))) room L).2 w' := by
  obtain ⟨-, c1⟩ := h.cells
  have HQ := hide h
  have HB := hide hb
  have HA := hide ap
  have HR := hide hroom
  have KK := keysQ_any w mb
  obtain ⟨w1, hw1, r1, z1, b1⟩ := alloc_nm w (.cells #[.map (some mb)] 57)
  rw [hw1] at KK
  have KO := orderQ_any w1 q
  obtain ⟨w2, hw2, r2, z2, b2⟩ := alloc_nm w1 (.cells #[.pointer (some ⟨q, 0, none⟩)] 71)
  rw [hw2] at KO
  have B12 := b1.trans (b2.mono b1.size)
  have KS := sortedF_any w2 w.heap.size w1.heap.size q mb most L S (h.below B12 (Nat.le_refl _)) (by omega) ((b2.cell (p := ⟨w.heap.size, 0, none⟩) (show w.heap.size < w1.heap.size by omega)).trans ((cell_of_row w1 w.heap.size 0 _ _ (0, 0) r1).trans rfl)) hlen (by omega) ((cell_of_row w2 w1.heap.size 0 _ _ (0, 0) r2).trans rfl)
  have hkn : (ordQ L (L.map (·.1))).length = L.length := by have := (ordQ_perm L (L.map (·.1))).length_eq; simpa using this
  have hnd : (ordQ L (L.map (·.1))).Nodup := (ordQ_perm L (L.map (·.1))).nodup_iff.2 h.ok.nodup
  have hhas : ∀ k ∈ ordQ L (L.map (·.1)), hasQ L k = true := fun k hk => hasQ_iff.2 ((ordQ_perm L (L.map (·.1))).mem_iff.1 hk)
  obtain ⟨ks, hks⟩ : ∃ ks, ks = ordQ L (L.map (·.1)) := ⟨_, rfl⟩
  rw [← hks] at KS hkn hnd hhas ⊢
  have HN := hide hnd
  have HH := hide hhas
  have HK := hide hkn
  have HL := hide hlen
  have B2 := hide B12
  have HS2 := hide z1
  have HS3 := hide z2
  have d1 : w2.cell? ⟨q, 1, none⟩ = some (.map (some mb)) := (B12.cell (p := ⟨q, 1, none⟩) h.lt.1).trans c1
  clear h hb ap hroom hw1 r1 z1 b1 hw2 r2 z2 b2 B12 hkn hnd hhas hlen hks
  go_enter Try.func29, Try.ntmps29
  go_wp2_with (first
    | (go_at_call 36; with_reducible refine KK.mono ?_; rintro e wX ⟨rfl, hwX⟩; replace hwX := hwX.symm; subst hwX)
    | (go_at_call 37; with_reducible refine KO.mono ?_; rintro e wX ⟨rfl, hwX⟩; replace hwX := hwX.symm; subst hwX)
    | fail)
  refine KS.mono ?_
  rintro e W ⟨v, rfl, hrow, hbW⟩
  dsimp only
  obtain ⟨A, c, ev, hcl⟩ := hrow.shape
  rw [List.length_map] at ev hcl
  obtain ⟨n, hn⟩ : ∃ n, n = ks.length := ⟨_, rfl⟩
  rw [← hn] at ev hcl
  subst ev
  have HNn := hide hn
  have BW := hide (B2.out.trans (hbW.mono B2.out.size))
  have I0 : Hid (PickI w W q mb lb w.heap.size most S ks (.slice A n c) room L 0 room L []) := hide
    ⟨HQ.out.below BW.out (Nat.le_refl _), ⟨_, (BW.out.block lb HA.out.l).trans HB.out, NewsR.nil _ _⟩, row_mono hrow B2.out.size, BW.out.os, BW.out.tape, BW.out.output, BW.out.size, fun i hi _ _ => BW.out.block i hi, fun k hk => HH.out k (by simpa using hk), by simp, HR.out, Nat.le_refl _⟩
  clear hrow hbW hn KS d1 c1 KK KO hcl
  go_wp2
  go_loopw [1, 18] (fun r i wr => ∃ (j : Nat) (rm : Int) (Lc : List (Int × Nw)) (l : List (Int × List UInt8)), j ≤ n ∧ i = .int .i64 (j : Int) ∧ r = .int .i64 rm ∧ Hid (PickI w wr q mb lb w.heap.size most S ks (.slice A n c) room L j rm Lc l)) (fun _ i _ => n - (Go.RowKit.intOf i).toNat)
  case atStart => exact ⟨0, room, L, [], by omega, rfl, rfl, I0⟩
  case round =>
    obtain ⟨j, rm, Lc, l, hj, rfl, rfl, hI⟩ := hrel
    by_cases hlt : j < n
    · have hjk : j < ks.length := by rw [← HNn.out]; exact hlt
      obtain ⟨g0, c0', e0, -, -, -⟩ := hI.out.row.pos (by rw [List.length_map]; omega)
      rw [List.length_map, ← HNn.out] at e0
      simp only [Value.slice.injEq, true_and] at e0
      obtain ⟨rfl, rfl⟩ := e0
      have hcell := OwnR.cell hI.out.row j (by rw [List.length_map]; exact hjk)
      rw [List.getElem_map] at hcell
      have hhk : hasQ Lc ks[j] = true := hI.out.has _ (by rw [List.drop_eq_getElem_cons hjk]; exact List.mem_cons_self)
      obtain ⟨A1, cA, hlook, hbyt, -, hcA, hA1, -⟩ := que_look hI.out.que ks[j]
      obtain ⟨g1, rfl, -, -⟩ := hA1 hhk
      have hl' := hlook false
      obtain ⟨-, c1⟩ := hI.out.que.cells
      obtain ⟨x, hx⟩ := Option.isSome_iff_exists.1 hhk
      have hxo := hI.out.que.ok.each _ (lookQ_mem hx)
      have hdx : dataQ Lc ks[j] = x.1 := by unfold dataQ; rw [hx]; rfl
      have HD : Hid ((dataQ Lc ks[j]).length ≤ 140737488355328) := hide (by rw [hdx]; exact hxo.2.2.1)
      have HY := hide hbyt
      have HHK := hide hhk
      obtain ⟨k, hk⟩ : ∃ k, k = ks[j] := ⟨_, rfl⟩
      have HKJ := hide hk
      rw [← hk] at hcell hl'
      unfold izV at hcell
      obtain ⟨m, hm⟩ : ∃ m, m = (dataQ Lc k).length := ⟨_, rfl⟩
      obtain ⟨t, ht⟩ : ∃ t, t = (leftQ Lc k : Int) := ⟨_, rfl⟩
      rw [← hm, ← ht] at hl'
      have HM := hide hm
      have hji : (j : Int) < (n : Int) := by omega
      have hnb : n ≤ 4096 := by rw [HNn.out, HK.out]; exact HL.out
      clear hlook hbyt hA1 hhk hx hxo hdx hk hm ht hcA I0
      by_cases hgt : rm < (m : Int)
      · have HI2 := hide (hI.out.skip hjk (by rw [← HKJ.out, ← HM.out]; exact hgt))
        clear hI
        go_wp2
        go_roundw
        case rel => exact ⟨j + 1, rm, Lc, l, by omega, by go_num, rfl, HI2⟩
        case measure => simp [Go.RowKit.intOf]; omega
      · obtain ⟨v, hbx, hnr⟩ := hI.out.box
        have KT := tellF_any wr w.heap.size lb v l k (dataQ Lc k) ⟨g1, 0, none⟩ cA hbx HA.out.l hI.out.size hnr (by have := hI.out.few; have := HK.out; have := HL.out; omega) (by rw [HKJ.out]; exact HY.out) (by rw [HKJ.out]; exact HD.out)
        rw [← HM.out] at KT
        have hww : IntKind.i64.wrap (rm - (m : Int)) = rm - (m : Int) := by have := hI.out.room; rw [IntKind.wrap_i64]; omega
        have HBX := hide hbx
        have HNR := hide hnr
        have HGT := hide hgt
        have hgt' : ¬ ((m : Int) > rm) := hgt
        clear hbx hnr hgt
        go_wp2_with fail
        refine KT.mono ?_
        rintro e w3 ⟨rfl, v3, b3, r3, k3⟩
        dsimp only
        have K3 := hide k3
        have B3 := hide b3
        have R3 := hide r3
        have Q3 := hide (hI.out.que.keepT k3 HA.out (fun g hg => (HNR.out.at g hg).1))
        have KD := toldq_any w3 q mb most Lc S k Q3.out (fun hm => (HA.out.s mb hm).2.2 rfl) (by rw [HKJ.out]; exact HHK.out)
        clear KT k3 b3 r3 c1 hcell hl'
        go_wp2_with fail
        refine KD.mono ?_
        rintro e w4 ⟨rfl, q4, g4⟩
        dsimp only
        have HI2 : Hid (PickI w w4 q mb lb w.heap.size most S ks (.slice (some ⟨g0, 0, none⟩) n c) room L (j + 1) (rm - (m : Int)) (toldQ k Lc) (l ++ [(k, dataQ Lc k)])) := hide (by
          rw [HM.out, HKJ.out]
          exact hI.out.take hjk HN.out (by rw [← HKJ.out, ← HM.out]; have := HGT.out; omega) HA.out HBX.out HNR.out K3.out B3.out (by rw [← HKJ.out]; exact R3.out) (by rw [← HKJ.out]; exact q4) g4)
        clear KD q4 g4 hI HBX HNR K3 B3 R3 Q3 hww HGT
        go_wp2
        go_roundw
        case rel => exact ⟨j + 1, _, _, _, by omega, by go_num, rfl, HI2⟩
        case measure => simp [Go.RowKit.intOf]; omega
    · obtain rfl : j = n := by omega
      have HP : Hid (PickP w q mb lb w.heap.size most S (pickQ ks room L).1 (pickQ ks room L).2 wr) := hide (by
        have := hI.out.rest
        rw [HNn.out, List.drop_length] at this
        rw [show pickQ [] rm Lc = ([], Lc) from rfl] at this
        simp only [List.append_nil] at this
        rw [this]
        exact ⟨hI.out.box, hI.out.que, hI.out.os, hI.out.tape, hI.out.output, hI.out.size, hI.out.keep⟩)
      clear hI I0 hlt
      go_wp2
      go_end0
      exact ⟨rfl, HP.out⟩
end Go.Proofs.Ytajpibopknpmmaa
