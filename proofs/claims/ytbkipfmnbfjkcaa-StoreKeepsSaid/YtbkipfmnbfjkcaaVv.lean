/-
  Pins that live no more go.
-/
import Derived.Test.YtbkipfmnbfjkcaaVu
namespace Go.Proofs.Ytbkipfmnbfjkcaa
open Go.RowKit
set_option maxRecDepth 100000
set_option linter.unusedVariables false
set_option linter.unusedSimpArgs false
attribute [local go_sem ↓] exec_span exec_put exec_build heap_alloc_new heap_old
attribute [local go_sem] spanQ_ptr spanC_some heap_of_drew heap_of_drewN putAt_ptr putOk_ptr oldOk_some World.setRow_alloc_new rs_Flow rs_Pin rs_Com rs_Sto rs_Que rs_tup built_pin0 built_com built_pin pinZ_lit tkZ_lit

def dropP (t : TK) : List PinR → List PinR
  | [] => []
  | a :: l => if t = a.t then l else a :: dropP t l
theorem drop_pin (t : TK) : ∀ (l : List PinR), dropM t (pinE l) = pinE (dropP t l)
  | [] => rfl
  | a :: l => by
    unfold pinE dropM dropP
    simp only [List.map_cons]
    by_cases h : t = a.t
    · rw [if_pos h, if_pos h]
    · rw [if_neg h, if_neg h, List.map_cons]
      have := drop_pin t l
      unfold pinE at this
      rw [this]
theorem dropP_sub (t : TK) : ∀ (l : List PinR), (dropP t l).Sublist l
  | [] => List.Sublist.slnil
  | a :: l => by
    unfold dropP
    split
    · exact List.sublist_cons_self a l
    · exact (dropP_sub t l).cons_cons a
theorem dropP_filter {f : PinR → Bool} {q : PinR} (hf : f q = false) : ∀ {l : List PinR}, (l.map (·.t)).Nodup → q ∈ l → (dropP q.t l).filter f = l.filter f
  | [], _, h => by cases h
  | a :: l, hn, hq => by
    simp only [List.map_cons, List.nodup_cons] at hn
    unfold dropP
    rcases List.mem_cons.1 hq with rfl | hq'
    · rw [if_pos rfl, List.filter_cons_of_neg (by rw [hf]; simp)]
    · have hne : ¬ q.t = a.t := fun e => hn.1 (by rw [← e]; exact List.mem_map.2 ⟨q, hq', rfl⟩)
      rw [if_neg hne]
      by_cases ha : f a = true
      · rw [List.filter_cons_of_pos ha, List.filter_cons_of_pos ha, dropP_filter hf hn.2 hq']
      · rw [List.filter_cons_of_neg ha, List.filter_cons_of_neg ha, dropP_filter hf hn.2 hq']
theorem Tou.grow {w w1 w2 : World} {a b : Nat} {ob : Option Nat} (h : Tou w w1 a b) (hg : w1.grownBy w2 ob) (hlow : ∀ k, ob = some k → w.heap.size ≤ k) : Tou w w2 a b :=
  ⟨hg.os.trans h.os, hg.tape.trans h.tape, hg.output.trans h.output, Nat.le_trans h.size hg.size, fun k hk h1 h2 => (hg.block k (Nat.lt_of_lt_of_le hk h.size) (fun e => by have := hlow k e.symm; omega)).trans (h.block k hk h1 h2)⟩
theorem Tou.bel_ {w w1 w2 : World} {a b : Nat} (h : Tou w w1 a b) (hb : Below w1.heap.size w1 w2) : Tou w w2 a b := h.trans (Tou.of_below hb)
theorem Tou.cell {w w1 : World} {a b g j : Nat} {v : Value} (h : Tou w w1 a b) (hg : g < w.heap.size) (h1 : g ≠ a) (h2 : g ≠ b) (hc : w.cell? ⟨g, j, none⟩ = some v) : w1.cell? ⟨g, j, none⟩ = some v := by
  unfold World.cell? at hc ⊢
  rw [h.block g hg h1 h2]; exact hc
set_option maxHeartbeats 1000000 in
theorem sweep1_any (w : World) (q : PinR) (pn : Nat) (now : Int) (hc : w.cell? ⟨pn, 0, none⟩ = some (.int .i64 now)) (hl : pn < w.heap.size) :
    Calls Try.prog 58 #[.agg (tupA q.t), .agg (pinA q), .pointer (some ⟨pn, 0, none⟩)] w (RetV w (.bool (!liveB q.f now))) := by
  obtain ⟨w1, hw1, r1, z1, b1⟩ := alloc_nm w (.cells (tupA q.t) 63)
  obtain ⟨w2, hw2, r2, z2, b2⟩ := alloc_nm w1 (.cells (pinA q) 66)
  have B2 : Below w.heap.size w w2 := b1.trans (b2.mono b1.size)
  have c1 : w2.cell? ⟨pn, 0, none⟩ = some (.int .i64 now) := (B2.cell (p := ⟨pn, 0, none⟩) hl).trans hc
  have HB := hide B2
  have pf := pin_flow q
  have ps := pin_size q
  have KL := hide (fun W => liveF_any W q.f now)
  unfold flV at KL
  generalize liveB q.f now = lb at KL ⊢
  clear b1 b2 z1 z2 r1 B2 hc hl
  go_enter Try.func58, Try.ntmps58
  go_wp2_with fail
  go_at_call 18
  with_reducible refine (KL.out _).mono ?_
  rintro e w3 ⟨rfl, b3⟩
  have HB3 := hide (HB.out.trans (b3.mono HB.out.size))
  clear b3
  dsimp only
  go_wp2
  go_ret
  exact ⟨rfl, HB3.out⟩
set_option maxHeartbeats 16000000 in
theorem deleteF_any {w : World} {bp : Nat} {l : List PinR} (h : MapG encT w bp (pinE l)) (hnd : (l.map (·.t)).Nodup) (pn : Nat) (now : Int) (hc : w.cell? ⟨pn, 0, none⟩ = some (.int .i64 now)) (hl : pn < w.heap.size) (hne : pn ≠ bp) :
    Calls Try.prog 57 #[.map (some bp), .func (.func 58) #[] #[.pointer (some ⟨pn, 0, none⟩)]] w fun e w' => e = .returned (.tuple #[]) ∧ MapG encT w' bp (pinE (l.filter (fun q => liveB q.f now))) ∧ Tou w w' bp bp := by
  have HM := hide h
  have HBP := hide h.lt
  have HND := hide hnd
  have HC := hide (fun W (ht : Tou w W bp bp) => ht.cell hl hne hne hc)
  have HPL := hide hl
  have HPR := hide (fun (W : World) {l S : List PinR} (hp : ((pinE l).map (fun p => (encT p.1, p.2))).Perm ((pinE S).map (fun p => (encT p.1, p.2)))) => perm_pins w hp)
  have KQ := hide (fun W q hc hl => sweep1_any W q pn now hc hl)
  clear h hc hl hnd hne
  go_enter Try.func57, Try.ntmps57
  go_wp2_with (at_range; refine wpList_rangeG _ rfl _ 92 63 66 rfl Try.underlying92 bp (pinE l) rfl HM.out ?_; intro w2 hI0 hb0 hs0)
  have HI0 := hide hI0
  have HB0 := hide (Tou.of_below (bp := bp) (bu := bp) hb0)
  obtain ⟨r, hr⟩ : ∃ r, r = w.heap.size := ⟨_, rfl⟩
  have HR : Hid (w.heap.size ≤ r) := hide (by omega)
  rw [← hr] at HI0 ⊢
  clear hb0 hI0 hs0 hr
  go_frame
  go_loopw [4] (fun _ wr => ∃ (l1 S : List PinR) (n : Nat), Hid (IterG encT wr bp r (pinE l1) (pinE S) n) ∧ Hid ((l1.map (·.t)).Nodup) ∧ Hid (l1.filter (fun q => liveB q.f now) = l.filter (fun q => liveB q.f now)) ∧ Hid (∀ q ∈ S, liveB q.f now = true) ∧ Hid (Tou w wr bp bp)) (fun _ wr => wr.rangeLeft bp r)
  case atStart => exact ⟨l, [], _, HI0, HND, hide rfl, hide (fun q h => by cases h), HB0⟩
  case round =>
    obtain ⟨l1, S, n, hI, hN, hF, hS, hT⟩ := hrel
    have HLF := hide hI.out.left
    go_wp2_with (at_next; refine wpList_nextG _ (fun a b => keyLaw_inj keyT w a b) rfl _ rfl bp r (pinE l1) (pinE S) n rfl hI.out ?_ ?_)
    · intro hn0 hperm
      have HFIN : Hid (l1 = l.filter (fun q => liveB q.f now)) := hide (by
        have hp := HPR.out w hperm
        rw [← hF.out]
        exact (List.filter_eq_self.2 (fun q hq => hS.out q (hp.mem_iff.1 hq))).symm)
      clear hperm hn0
      go_wp2
      go_end0
      exact ⟨rfl, by rw [← HFIN.out]; exact hI.out.map, hT.out⟩
    · intro k0 hk0 v w3 n' hkv hI3 hlt hg3 hs3 hen
      obtain ⟨k, hkk⟩ : ∃ k : TK, k = ⟨k0, hk0⟩ := ⟨_, rfl⟩
      rw [← hkk] at hkv hI3 hen ⊢
      clear hkk
      obtain ⟨q, hql, rfl, rfl⟩ := pin_mem hkv
      have HI3 := hide hI3
      have HT3 := hide (hT.out.grow hg3 (fun k e => by cases e; exact HR.out))
      have HQL := hide hql
      have HLT := hide hlt
      obtain ⟨Wa, hWa, ra, za, ba⟩ := alloc_nm w3 (.cells (tupA tkZ) 63)
      obtain ⟨Wb, hWb, rb, zb, bb⟩ := alloc_nm Wa (.cells (pinA pinZ) 66)
      have ra2 := keepB bb ra
      obtain ⟨Wc, hWc⟩ : ∃ Wc, Wb.setRow w3.heap.size (tupA q.t) = Wc := ⟨_, rfl⟩
      have rc1 : Wc.heap[w3.heap.size]? = some (.cells (tupA q.t) 63 (0, 0)) := by rw [← hWc]; exact setRow_heap _ _ _ _ _ _ ra2
      have rc2 : Wc.heap[Wa.heap.size]? = some (.cells (pinA pinZ) 66 (0, 0)) := by rw [← hWc]; exact (setRow_other _ _ _ _ (by omega)).trans rb
      obtain ⟨Wd, hWd⟩ : ∃ Wd, Wc.setRow Wa.heap.size (pinA q) = Wd := ⟨_, rfl⟩
      have rd2 : Wd.heap[Wa.heap.size]? = some (.cells (pinA q) 66 (0, 0)) := by rw [← hWd]; exact setRow_heap _ _ _ _ _ _ rc2
      have rd1 : Wd.heap[w3.heap.size]? = some (.cells (tupA q.t) 63 (0, 0)) := by rw [← hWd]; exact (setRow_other _ _ _ _ (by omega)).trans rc1
      have BD : Below w3.heap.size w3 Wd := by rw [← hWd, ← hWc]; exact below_setRow (below_setRow (ba.trans (bb.mono (by omega))) (Nat.le_refl _) _) (by omega) _
      have HID := hide (HI3.out.below BD)
      have HTD := hide (HT3.out.bel_ BD)
      have tx := tup_x q.t
      have ts := tup_size q.t
      have t1 := tup_one q.t
      have tz := tup_size tkZ
      have px := pin_x q
      have ps := pin_size q
      have po := pin_one q
      have zs := pin_size pinZ
      have KQ2 := hide (KQ.out Wd q (HC.out Wd HTD.out) (Nat.lt_of_lt_of_le HPL.out HTD.out.size))
      obtain ⟨lb, hlb⟩ : ∃ x, x = liveB q.f now := ⟨_, rfl⟩
      rw [← hlb] at KQ2
      have HLB := hide hlb
      unfold encT at hen
      have HD1 := hide rd1
      clear hkv hI3 hlt hg3 hs3 hql za ba zb bb ra BD hlb HI3 HT3 hI hT
      cases lb
      · have HDL : Hid (∀ W, Below Wd.heap.size Wd W → ∃ o, (Builtin.delete_ #[92, 63] 0 #[.map (some bp), .agg (tupA q.t)]).run Try.prog W = .ok (.tuple #[]) (W.putObj bp o) ∧ IterG encT (W.putObj bp o) bp r (pinE (dropP q.t l1)) (pinE S) n') := hide fun W hb => by
          have := (HID.out.below hb).del (P := Try.prog) (fun a b => keyLaw_inj keyT w a b) keyT Try.underlying92 (by simpa [pinE, Function.comp_def] using hN.out) 63 0
          rw [drop_pin] at this
          exact this
        go_wp2_with fail
        go_at_call 58
        with_reducible refine KQ2.out.mono ?_
        rintro e W6 ⟨rfl, b6⟩
        obtain ⟨o6, hdel, hI6⟩ := HDL.out W6 b6
        have rd6 := keepB b6 HD1.out
        have HT6 : Hid (Tou w (W6.putObj bp o6) bp bp) := hide ((HTD.out.bel_ b6).trans (Tou.putP o6))
        have HI6 := hide hI6
        obtain ⟨W7, hW7⟩ : ∃ W7, W6.putObj bp o6 = W7 := ⟨_, rfl⟩
        rw [hW7] at hdel HT6 HI6
        clear b6 hI6 HDL hW7
        dsimp only
        go_wp2_with (first | (at_builtin; refine wpList_deleteG _ rfl _ _ 92 63 rfl _ _ rfl rfl hdel ?_) | fail)
        go_roundw
        case rel => exact ⟨dropP q.t l1, S, n', HI6, hide (((dropP_sub q.t l1).map _).nodup hN.out), hide ((dropP_filter HLB.out.symm hN.out HQL.out).trans hF.out), hS, HT6⟩
        case measure => rw [HI6.out.left, HLF.out]; exact HLT.out
      · go_wp2_with fail
        go_at_call 58
        with_reducible refine KQ2.out.mono ?_
        rintro e W6 ⟨rfl, b6⟩
        have HI6 := hide (HID.out.below b6)
        have HT6 := hide (HTD.out.bel_ b6)
        clear b6
        dsimp only
        go_wp2_with fail
        go_roundw
        case rel => exact ⟨l1, q :: S, n', HI6, hN, hF, hide (fun x hx => by
          rcases List.mem_cons.1 hx with rfl | hx
          · exact HLB.out.symm
          · exact hS.out x hx), HT6⟩
        case measure => rw [HI6.out.left, HLF.out]; exact HLT.out
theorem len_pins {w : World} {bp : Nat} {l : List PinR} (h : MapG encT w bp (pinE l)) (ty : TypeId) : (Builtin.len_ #[92] ty #[.map (some bp)]).run Try.prog w = .ok (.int .i64 (l.length : Int)) w := by
  have := h.len (P := Try.prog) Try.underlying92 ty
  rw [this]; simp [pinE]
def sweepL (now : Int) (l : List PinR) : List PinR := l.filter (fun q => liveB q.f now)
set_option maxHeartbeats 4000000 in
theorem sweep_any {w : World} {p bp bu : Nat} {most : Int} {l : List PinR} {u : List ((Int × Int) × Int)} (h : StoS w p bp bu most l u) (hlen : l.length ≤ 100000) (now : Int) :
    Calls Try.prog 38 #[.pointer (some ⟨p, 0, none⟩), .int .i64 now] w fun e w' => e = .returned (.int .i64 ((l.length : Int) - ((sweepL now l).length : Int))) ∧ StoS w' p bp bu most (sweepL now l) u ∧ Tou w w' bp bu := by
  obtain ⟨w1, hw1, r1, z1, b1⟩ := alloc_nm w (.cells #[.int .i64 now] 2)
  have S1 := h.below b1
  have p1 : w1.cell? ⟨p, 1, none⟩ = some (.map (some bp)) := (cell_of_row w1 p 1 _ _ (0, 0) S1.blk).trans rfl
  have l1 := fun ty => len_pins S1.pins ty
  have hl := h.lt
  have KD := hide (deleteF_any S1.pins S1.nd w.heap.size now ((cell_of_row w1 _ 0 _ _ (0, 0) r1).trans rfl) (by omega) (by omega))
  have HF : Hid (∀ w2, MapG encT w2 bp (pinE (sweepL now l)) → Tou w1 w2 bp bp → StoS w2 p bp bu most (sweepL now l) u ∧ Tou w w2 bp bu ∧ w2.cell? ⟨p, 1, none⟩ = some (.map (some bp)) ∧ ∀ ty, (Builtin.len_ #[92] ty #[.map (some bp)]).run Try.prog w2 = .ok (.int .i64 ((sweepL now l).length : Int)) w2) := hide fun w2 hm ht => by
    have hb : ∀ k, k < w1.heap.size → k ≠ bp → w2.heap[k]? = w1.heap[k]? := fun k hk hne => ht.block k hk hne hne
    obtain ⟨n1, n2⟩ := h.ne_p
    have ll := S1.lt
    have hS : StoS w2 p bp bu most (sweepL now l) u := ⟨(hb p ll.1 n1).trans S1.blk, hm, S1.unt.of_heap (hb bu ll.2.2 (fun e => h.ne e.symm)), h.ne, ((List.filter_sublist).map _).nodup h.nd⟩
    exact ⟨hS, (Tou.of_below b1).trans ⟨ht.os, ht.tape, ht.output, ht.size, fun k hk h1 _ => ht.block k hk h1 h1⟩, (cell_of_row w2 p 1 _ _ (0, 0) hS.blk).trans rfl, fun ty => len_pins hm ty⟩
  have HLE : Hid ((sweepL now l).length ≤ l.length) := hide (List.length_filter_le _ _)
  have HLN := hide hlen
  have HSW : Hid (∀ l : List PinR, l.filter (fun q => liveB q.f now) = sweepL now l) := hide fun l => rfl
  obtain ⟨n1, hn1⟩ : ∃ n, n = l.length := ⟨_, rfl⟩
  obtain ⟨n2, hn2⟩ : ∃ n, n = (sweepL now l).length := ⟨_, rfl⟩
  rw [← hn1] at HLE HLN l1 ⊢
  rw [← hn2] at HF HLE ⊢
  clear h b1 S1 hl hlen r1 z1 hn1 hn2
  go_enter Try.func38, Try.ntmps38
  go_wp2_with fail
  go_at_call 57
  with_reducible refine KD.out.mono ?_
  rintro e w2 ⟨rfl, hm, ht⟩
  rw [HSW.out] at hm
  obtain ⟨hS, hT, p2, l2⟩ := HF.out w2 hm ht
  have HS := hide hS
  have HT := hide hT
  clear hm ht hS hT l1
  dsimp only
  have hwr : wrap64 ((n1 : Int) - (n2 : Int)) = (n1 : Int) - (n2 : Int) := wr64_inV _ (by have := HLN.out; have := HLE.out; omega) (by have := HLN.out; have := HLE.out; omega)
  go_wp2
  go_ret
  exact ⟨by first | rfl | exact ret_i64 hwr | exact ret_i64 (Go.IntWalk.i64_in _ ⟨by have := HLN.out; have := HLE.out; omega, by have := HLN.out; have := HLE.out; omega⟩), HS.out, HT.out⟩
end Go.Proofs.Ytbkipfmnbfjkcaa
