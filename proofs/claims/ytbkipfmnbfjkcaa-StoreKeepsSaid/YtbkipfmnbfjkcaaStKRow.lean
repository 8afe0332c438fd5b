/-
  Proved: whatever the calls, the numbers and the backend, StoreKeeps returns true (a flow that goes on keeps its backend and its generation, whatever the other flows do), and each argument reads as it read before. No condition.
-/
import Derived.Test.YtbkipfmnbfjkcaaRow
import Derived.Test.YtbkipfmnbfjkcaaStQ
import Derived.Deep.SlicePairs
import Derived.Deep.Slices
import Derived.Test.YtbkipfmnbfjkcaaOr
namespace Go.Proofs.Ytbkipfmnbfjkcaa
open Go.ChangeShapes Go.WideShapes Go.ChangeAt Go.RowKit Go.Deep
set_option linter.unusedVariables false
theorem trod_inQ {H : Type} {enc : TypeId × Value → H} {P : Program} {w : World} {base : Nat} {sp : Nat → Bool} {held : Bool} {t : TypeId} {v : Value} {x : DataW H × List MemPlace} {n : Nat} (ht : P.underlying t = some (.int .i64))
    (h : DataW.trod enc P w base sp held n t [v] = some x) : ∃ b, v = .int .i64 b := by
  cases n with
  | zero => simp [DataW.trod] at h
  | succ n =>
    cases v with
    | int k b =>
      simp only [DataW.trod, ht] at h
      by_cases hk : k = .i64
      · subst hk; exact ⟨b, rfl⟩
      · simp [hk] at h
    | _ => simp [DataW.trod, ht] at h
theorem cells_i8Q : Try.prog.cellsOf 2 = 1 := by kernel_rfl
theorem bytes_i8Q : Try.prog.bytesOf 2 = 8 := by kernel_rfl
theorem open_i64sQ (K : Nat) {H : Type} {enc : TypeId × Value → H} {W : World} {a0 : Option Addr} {len cap : Nat} {d : DataW H} {p : List MemPlace}
    (h : DataW.Trod enc Try.prog W 0 (fun _ => true) true 54 (.slice a0 len cap) d p)
    (hsz : ∀ elems spare, d = .slice elems spare → (elems.length + spare.length) * Try.prog.bytesOf 2 ≤ K) :
    ∃ l : List Int, len = l.length ∧ l.length ≤ cap ∧ cap * 8 ≤ K ∧ IntS W W.heap.size a0 l ∧ (a0 = none → cap = 0) := by
  obtain ⟨fuel, hf⟩ := h
  rcases open_slice1 Try.underlying54 cells_i8Q hf with ⟨hcs, _⟩ | ⟨x, l, c, m, n, V, D, Pl, hcs, _, hl, hm, hmm, hx, hcell⟩
  · simp [Value.cells] at hcs
    obtain ⟨rfl, rfl, rfl⟩ := hcs
    exact ⟨[], rfl, by simp, by omega, IntS.nil _ _ _, fun _ => rfl⟩
  · simp [Value.cells] at hcs
    obtain ⟨rfl, rfl, rfl⟩ := hcs
    obtain rfl : m = cap := by simpa using hmm
    simp only [Prod.mk.injEq] at hx
    have hs := hsz _ _ hx.1
    rw [bytes_i8Q] at hs
    simp only [List.length_map, List.length_range] at hs
    have each : ∀ i, i < m → ∃ q : Int, W.cell? (x.add i) = some (.int .i64 q) := fun i hi => by
      obtain ⟨e0, t0⟩ := hcell i hi
      obtain ⟨z0, hz0⟩ := trod_inQ Try.underlying2 t0
      exact ⟨z0, by rw [e0, hz0]⟩
    obtain ⟨q, hq⟩ := choose_lt each
    refine ⟨(List.range len).map q, by simp, by simp; omega, by omega, fun hpos => ?_, (fun e => by cases e)⟩
    simp at hpos
    obtain ⟨b, off, spot⟩ := x
    have h0 := hq 0 (by omega)
    have hspot : spot = none := by
      have := World.cell?_spot h0
      simpa [Addr.add] using this
    subst hspot
    have hlt : b < W.heap.size := by
      have := World.block_lt_of_cell? W _ h0
      rwa [block_of_add] at this
    refine ⟨b, off, rfl, hlt, fun i hi => ?_⟩
    simp at hi
    have h1 := hq i (by omega)
    rw [add_none] at h1
    simp only [List.getElem_map, List.getElem_range]
    exact h1
end Go.Proofs.Ytbkipfmnbfjkcaa
namespace Go.Proofs.Ytbkipfmnbfjkcaa
open Go.RowKit
set_option maxRecDepth 100000
set_option linter.unusedVariables false
set_option linter.unusedSimpArgs false
attribute [local go_sem ↓] exec_span exec_put exec_build heap_alloc_new heap_old
attribute [local go_sem] spanQ_ptr spanC_some heap_of_drew heap_of_drewN putAt_ptr putOk_ptr oldOk_some World.setRow_alloc_new rs_Flow rs_Pin rs_Com rs_Sto rs_Que rs_tup built_pin0 built_com built_pin pinZ_lit tkZ_lit built_que
attribute [local go_sem] actZ_lit rs_ActQ
def keepQ (z now : Int) : PinR := ⟨tN 60001, z, 7, ⟨6, 1, now⟩⟩
theorem rightT_t6 : rightT (tN 60001).1 = true := by
  have h1 : rightL false (10 :: List.replicate 15 0) = true := by rfl
  have h2 : rightL false (List.replicate 16 0) = true := by rfl
  have h3 : portOk 80 = true := by rfl
  have h4 : protoOk 6 = true := by rfl
  unfold rightT tN
  dsimp only
  rw [h1, h2, h3, h4]
  simp [portOk]
theorem look_put_other {t : TK} {q : PinR} (h : t ≠ q.t) : ∀ (l : List PinR), lookP t (putP q l) = lookP t l
  | [] => by
    have : decide (t = q.t) = false := by simpa using h
    simp [lookP, putP, this]
  | a :: l => by
    have h1 : decide (t = q.t) = false := by simpa using h
    unfold putP
    by_cases e : q.t = a.t
    · rw [if_pos e]
      have h2 : decide (t = a.t) = false := by rw [← e]; exact h1
      unfold lookP
      rw [List.find?_cons, List.find?_cons, h1, h2]
    · rw [if_neg e]
      have := look_put_other h l
      unfold lookP at this ⊢
      rw [List.find?_cons, List.find?_cons, this]
theorem look_put_self {q : PinR} : ∀ (l : List PinR), lookP q.t (putP q l) = some q
  | [] => by simp [lookP, putP]
  | a :: l => by
    unfold putP
    by_cases e : q.t = a.t
    · rw [if_pos e]; simp [lookP]
    · rw [if_neg e]
      have h2 : decide (q.t = a.t) = false := by simpa using e
      have := look_put_self (q := q) l
      unfold lookP at this ⊢
      rw [List.find?_cons, h2]
      exact this
theorem look_filter {t : TK} {q : PinR} (f : PinR → Bool) (hf : f q = true) : ∀ (l : List PinR), lookP t l = some q → lookP t (l.filter f) = some q
  | [], h => by simp [lookP] at h
  | a :: l, h => by
    unfold lookP at h
    rw [List.find?_cons] at h
    cases hd : decide (t = a.t) with
    | true =>
      rw [hd] at h
      obtain rfl : a = q := by simpa using h
      rw [List.filter_cons_of_pos hf]
      unfold lookP
      rw [List.find?_cons, hd]
    | false =>
      rw [hd] at h
      have := look_filter f hf l h
      by_cases ha : f a = true
      · rw [List.filter_cons_of_pos ha]
        unfold lookP at this ⊢
        rw [List.find?_cons, hd]
        exact this
      · rw [List.filter_cons_of_neg ha]
        exact this
theorem keep_live {now n1 : Int} (h0 : 0 ≤ now) (h1 : now ≤ n1) (h2 : n1 ≤ now + 60) (h3 : now ≤ 1099511627776) : liveB ⟨6, 1, now⟩ n1 = true := by
  rw [liveB_iff]
  refine ⟨rightB_iff.2 ⟨.inl ⟨rfl, (by show (1 : Int) ≤ 1; omega), (by show (1 : Int) ≤ 3; omega)⟩, clockB_iff.2 ⟨h0, h3⟩⟩, (by show (1 : Int) ≠ 3; omega), h1, ?_⟩
  show n1 ≤ now + 60
  exact h2
theorem keep_get {z now n1 : Int} {l : List PinR} (hl : lookP (tN 60001) l = some (keepQ z now)) (hv : liveB ⟨6, 1, now⟩ n1 = true) : getP (tN 60001) n1 l = some (keepQ z now) := by
  unfold getP
  rw [hl]
  have : liveP n1 (keepQ z now) = true := hv
  rw [Option.filter_some, if_pos this]
theorem keep_step {now n1 : Int} (h0 : 0 ≤ now) (h1 : now ≤ n1) (h2 : n1 ≤ now + 60) (h3 : n1 ≤ 1099511627776) : stepF ⟨6, 1, now⟩ 16 n1 = (⟨6, 1, n1⟩, 0) := by
  have hr : rightB ⟨6, 1, now⟩ = true := rightB_iff.2 ⟨.inl ⟨rfl, (by show (1 : Int) ≤ 1; omega), (by show (1 : Int) ≤ 3; omega)⟩, clockB_iff.2 ⟨h0, (by show now ≤ 1099511627776; omega)⟩⟩
  have hp : pktB 6 16 n1 = true := pktB_iff.2 ⟨(fun h => by omega), by omega, by omega, clockB_iff.2 ⟨by omega, h3⟩⟩
  have hv := keep_live h0 h1 h2 (by omega)
  unfold stepF
  rw [hr, hv, if_neg (by rw [hp]; simp), if_neg (by show ¬ n1 < now; omega), if_neg (by simp)]
  rfl
theorem keep_packet {z now n1 : Int} {l : List PinR} {u : List ((Int × Int) × Int)} (hl : lookP (tN 60001) l = some (keepQ z now)) (h0 : 0 ≤ now) (h1 : now ≤ n1) (h2 : n1 ≤ now + 60) (h3 : n1 ≤ 1099511627776) :
    packetS l u (tN 60001) 16 n1 n1 = ((keepQ z n1, 0), (putP (keepQ z n1) l, untP (keepQ z n1) n1 u)) := by
  have hr := rightT_t6
  have hg := keep_get hl (keep_live h0 h1 h2 (by omega))
  have hc : clockB n1 = true := clockB_iff.2 ⟨by omega, h3⟩
  have hs := keep_step h0 h1 h2 h3
  unfold packetS
  rw [hr, hc, hg]
  have hs' : stepF (pinO (some (keepQ z now))).f 16 n1 = (⟨6, 1, n1⟩, 0) := hs
  rw [hs', if_neg (by simp), if_neg (by simp), if_neg (by simp)]
  rfl
theorem keep_begin {z : Int} (h0 : 0 ≤ z) (h1 : z < 32) : beginS 256 [] [] (tN 60001) 2 0 0 z 7 = ((keepQ z 0, 0), ([keepQ z 0], untP (keepQ z 0) 0 [])) := by
  have hr := rightT_t6
  have ho : okB z 7 = true := by simp [okB, h0, h1]
  have hc : clockB 0 = true := by rfl
  have hb : beginF (tN 60001).1.p 2 0 = (⟨6, 1, 0⟩, 0) := by rfl
  have hg : getP (tN 60001) 0 [] = none := by rfl
  unfold beginS
  rw [hr, ho, hc, hg, hb, if_neg (by simp), if_neg (by simp), if_neg (by simp), if_neg (by simp [lenL])]
  rfl
theorem keep_other_packet {q : PinR} {t : TK} {l : List PinR} {u : List ((Int × Int) × Int)} {fl n z : Int} (hne : t ≠ tN 60001) (hl : lookP (tN 60001) l = some q) : lookP (tN 60001) (packetS l u t fl n z).2.1 = some q ∧ (packetS l u t fl n z).2.1.length ≤ l.length + 1 := by
  unfold packetS
  split
  · exact ⟨hl, Nat.le_succ _⟩
  split
  · exact ⟨hl, Nat.le_succ _⟩
  split
  · exact ⟨hl, Nat.le_succ _⟩
  next _ hg he =>
    obtain ⟨x, hx⟩ : ∃ x, getP t n l = some x := by
      cases hg2 : getP t n l with
      | none => rw [hg2] at hg; simp at hg
      | some x => exact ⟨x, rfl⟩
    obtain ⟨_, ht, _⟩ := get_mem hx
    rw [hx]
    refine ⟨?_, putP_len _ _⟩
    rw [look_put_other (by show tN 60001 ≠ x.t; rw [ht]; exact fun e => hne e.symm)]
    exact hl
theorem keep_other_begin {q : PinR} {most : Int} {t : TK} {l : List PinR} {u : List ((Int × Int) × Int)} {fl n z b g : Int} (hne : t ≠ tN 60001) (hl : lookP (tN 60001) l = some q) (hv : liveB q.f n = true) : lookP (tN 60001) (beginS most l u t fl n z b g).2.1 = some q ∧ (beginS most l u t fl n z b g).2.1.length ≤ l.length + 1 := by
  unfold beginS
  split
  · exact ⟨hl, Nat.le_succ _⟩
  split
  · exact ⟨hl, Nat.le_succ _⟩
  split
  · exact ⟨hl, Nat.le_succ _⟩
  split
  · exact ⟨hl, Nat.le_succ _⟩
  have hsl : (sweepL n l).length ≤ l.length := List.length_filter_le _ _
  refine ⟨?_, Nat.le_trans (putP_len _ _) (by omega)⟩
  rw [look_put_other (fun e => hne e.symm)]
  exact look_filter _ hv l hl
theorem pin_c37 (q : PinR) : (pinA q)[37]? = some (.int .i64 q.b) := by
  unfold pinA
  rw [List.getElem?_toArray]
  unfold pinL
  rw [List.getElem?_append_right (by rw [tupL_len]; omega), tupL_len]
  rfl
theorem pin_c38 (q : PinR) : (pinA q)[38]? = some (.int .i64 q.g) := by
  unfold pinA
  rw [List.getElem?_toArray]
  unfold pinL
  rw [List.getElem?_append_right (by rw [tupL_len]; omega), tupL_len]
  rfl
theorem pin_tu (q : PinR) : (pinA q).extract 0 37 = tupA q.t := by
  apply Array.ext_getElem?
  intro i
  rw [Array.getElem?_extract, pin_size]
  by_cases hi : i < 37
  · rw [if_pos (by omega)]
    unfold pinA tupA
    rw [List.getElem?_toArray, List.getElem?_toArray]
    unfold pinL
    rw [Nat.zero_add, List.getElem?_append_left (by rw [tupL_len]; omega)]
  · rw [if_neg (by omega), Array.getElem?_eq_none (by rw [tup_size]; omega)]
theorem keepPacket_any {W : World} {p bp bu : Nat} {l : List PinR} {u : List ((Int × Int) × Int)} {z now n1 : Int} (hs : StoS W p bp bu 256 l u) (hl : lookP (tN 60001) l = some (keepQ z now)) (h0 : 0 ≤ now) (h1 : now ≤ n1) (h2 : n1 ≤ now + 60) (h3 : n1 ≤ 1099511627776) :
    Calls Try.prog 30 #[.pointer (some ⟨p, 0, none⟩), .agg (tupA (tN 60001)), .int .i64 16, .int .i64 n1, .int .i64 n1] W fun e w' => e = .returned (.tuple #[.agg (pinA (keepQ z n1)), .int .i64 0]) ∧ StoS w' p bp bu 256 (putP (keepQ z n1) l) (untP (keepQ z n1) n1 u) ∧ Tou W w' bp bu := by
  have h := packetS_any hs (tN 60001) 16 n1 n1
  have hk := keep_packet (u := u) hl h0 h1 h2 h3
  generalize packetS l u (tN 60001) 16 n1 n1 = R at h hk
  subst hk
  exact h
theorem keep_busy {z now : Int} {l : List PinR} {u : List ((Int × Int) × Int)} (hl : lookP (tN 60001) l = some (keepQ z now)) (h0 : 0 ≤ now) (h1 : now ≤ 1099511627776) : busyL z 7 now l u = true := by
  cases hb : busyL z 7 now l u with
  | true => rfl
  | false =>
    have h2 := (busy_iff z 7 now l u).1 hb
    unfold lookP at hl
    have h3 := h2.2 (keepQ z now) (List.mem_of_find?_eq_some hl) rfl rfl
    have h4 : liveB (keepQ z now).f now = true := keep_live h0 (Int.le_refl _) (by omega) h1
    rw [h4] at h3
    cases h3
theorem keepBusy_any {W : World} {p bp bu : Nat} {l : List PinR} {u : List ((Int × Int) × Int)} {z now : Int} (hs : StoS W p bp bu 256 l u) (hlen : l.length ≤ 100000) (hl : lookP (tN 60001) l = some (keepQ z now)) (h0 : 0 ≤ now) (h1 : now ≤ 1099511627776) :
    Calls Try.prog 31 #[.pointer (some ⟨p, 0, none⟩), .int .i64 z, .int .i64 7, .int .i64 now] W (RetV W (.bool true)) := by
  have h := busyS_any hs hlen z 7 now
  have hk := keep_busy (u := u) hl h0 h1
  generalize busyL z 7 now l u = R at h hk
  subst hk
  exact h
set_option maxHeartbeats 16000000 in
theorem storeKeeps_any (w : World) (A : Option Addr) (n c : Nat) (l0 : List ActQ) (A1 : Option Addr) (m c1 : Nat) (j1 : List Int) (zz : Int) (hn : n = l0.length) (hnc : n ≤ 8796093022208) (hr : RowK 43 w A (l0.map actA))
    (hm : m = j1.length) (hmc : m ≤ 140737488351232) (hj : IntS w w.heap.size A1 j1) : Calls Try.prog 7 #[.slice A n c, .slice A1 m c1, .int .i64 zz] w (RetV w (.bool true)) := by
  have KR := hide hr
  have HN := hide hn
  have HNC := hide hnc
  have KJ := hide hj
  have HM := hide hm
  have HMC := hide hmc
  have hz0 := count_lt zz (n := 32) (by omega)
  have KC : Hid (∀ W, Calls Try.prog 27 #[.int .i64 zz, .int .i64 32] W fun e w' => e = .returned (.int .i64 (countS zz 32 : Nat)) ∧ W = w') := hide (fun W => count_any zz 32 W (by omega) (by omega))
  obtain ⟨zn, hzn⟩ : ∃ x, x = countS zz 32 := ⟨_, rfl⟩
  rw [← hzn] at KC hz0
  have HZ : Hid (0 ≤ (zn : Int) ∧ (zn : Int) < 32) := hide ⟨by omega, by omega⟩
  obtain ⟨z, hz⟩ : ∃ x : Int, x = (zn : Int) := ⟨_, rfl⟩
  rw [← hz] at KC HZ
  have KT : Hid (∀ W, Calls Try.prog 28 #[.int .i64 60000] W (RetV W (encT (tN 60001)))) := hide (fun W => tuple20_any W 60000 (by omega) (by omega))
  unfold encT at KT
  have KB0 := hide (fun (W : World) (p bp bu : Nat) (hs : StoS W p bp bu 256 [] []) => by
    have := beginS_any hs (by simp) (tN 60001) 2 0 0 z 7
    rw [keep_begin HZ.out.1 HZ.out.2] at this
    exact this)
  unfold pinEV encT at KB0
  dsimp only at KB0
  have KK := hide (fun W => known20_any W)
  have zs := pin_size pinZ
  have zx := pin_x pinZ
  have z1 := pin_one pinZ
  have za := act_size actZ
  have zt := tup_size tkZ
  have ts := tup_size (tN 60001)
  have tx := tup_x (tN 60001)
  have t1 := tup_one (tN 60001)
  have qs := fun n => pin_size (keepQ z n)
  have qo := fun n => pin_one (keepQ z n)
  have hTT : ∀ W, (binOp .neq 63 (.agg (tupA (tN 60001))) (.agg (tupA (tN 60001)))).run Try.prog W = .ok (.bool false) W := fun W => by rw [neq_tu W _ _ _ _ (tupA_tu _) (tupA_tu _), (sameT_iff _ _).2 rfl]; rfl
  clear hr hn hnc hj hm hmc hz0 hzn hz
  have HB := hide (Below.refl w.heap.size w)
  go_enter Try.func7, Try.ntmps7
  go_wp2_with fail
  go_at_call 26
  with_reducible refine (newS_any _ 256).mono ?_
  rintro e W1 ⟨b1, hN⟩
  rcases hN with ⟨_, p, bp, bu, rfl, h1, h2, hS⟩ | ⟨hN, _⟩
  case inr => exact absurd (by omega) hN
  have hbp : Hid (w.heap.size ≤ bp) := hide (by have := HB.out.size; omega)
  have hbu : Hid (w.heap.size ≤ bu) := hide (by have := HB.out.size; omega)
  have HS := hide hS
  clear h1 h2 hS
  replace HB := hide (HB.out.trans (b1.mono HB.out.size))
  clear b1
  dsimp only
  go_wp2_with fail
  go_at_call 27
  with_reducible refine (KC.out _).mono ?_
  rintro e w9 ⟨rfl, rfl⟩
  dsimp only
  go_wp2_with fail
  go_at_call 28
  with_reducible refine (KT.out _).mono ?_
  rintro e W2 ⟨rfl, b2⟩
  replace HS := hide (HS.out.below b2)
  replace HB := hide (HB.out.trans (b2.mono HB.out.size))
  clear b2
  dsimp only
  have N_t := hide HS.out.lt
  obtain ⟨W3, hW3, r_t, z3, b3⟩ := alloc_nm W2 (.cells (tupA (tN 60001)) 63)
  clear z3
  replace HS := hide (HS.out.below b3)
  replace HB := hide (HB.out.trans (b3.mono HB.out.size))
  clear b3
  go_wp2_with fail
  go_at_call 29
  with_reducible refine (KB0.out _ _ _ _ HS.out).mono ?_
  rintro e W4 ⟨rfl, hS4, hT4⟩
  replace r_t := keepT hT4 (by have := N_t.out; omega) (by have := N_t.out; omega) r_t
  replace HB := hide (Tou.bel HB.out HB.out.size hT4 hbp.out hbu.out)
  replace HS := hide hS4
  clear hS4 hT4
  dsimp only
  have N_p0 := hide HS.out.lt
  obtain ⟨W5, hW5, r_p0, z5, b5⟩ := alloc_nm W4 (.cells (pinA (keepQ z 0)) 66)
  clear z5
  replace r_t := keepB b5 r_t
  replace HS := hide (HS.out.below b5)
  replace HB := hide (HB.out.trans (b5.mono HB.out.size))
  clear b5
  go_wp2_with fail
  have HRT := hide r_t
  clear r_t r_p0
  go_loopw [10, 13] (fun v10 v13 wr => ∃ (i : Nat) (now : Int) (l : List PinR) (u : List ((Int × Int) × Int)), v10 = .int .i64 now ∧ v13 = .int .i64 (i : Int) ∧ Hid (i ≤ n ∧ i ≤ 60 ∧ 0 ≤ now ∧ now ≤ 60 * (i : Int) ∧ l.length ≤ 2 * i + 1 ∧ lookP (tN 60001) l = some (keepQ z now)) ∧ Hid (StoS wr p bp bu 256 l u) ∧ Hid (wr.heap[W2.heap.size]? = some (.cells (tupA (tN 60001)) 63 (0, 0))) ∧ Hid (Below w.heap.size w wr)) (fun _ v13 _ => n - (Go.RowKit.intOf v13).toNat)
  case atStart => exact ⟨0, 0, [keepQ z 0], _, rfl, rfl, hide ⟨Nat.zero_le _, by omega, by omega, by omega, by simp, by simp [lookP, keepQ]⟩, HS, HRT, HB⟩
  clear HS HB HRT
  case round =>
    obtain ⟨i, now, l, u, rfl, rfl, HI, HS, HRT, HB⟩ := hrel
    by_cases hlt : i < n ∧ i < 60
    · have hi1 : decide ((i : Int) < (n : Int)) = true := by simp; omega
      have hi2 : decide ((i : Int) < 60) = true := by simp; omega
      have HLT := hide hlt
      have hi3 : i < n := hlt.1
      have hi4 : i < 60 := hlt.2
      have hw1 : wrap64 ((i : Int) + 1) = (i : Int) + 1 := wr64_inV _ (by omega) (by omega)
      have hlt2 : i < l0.length := by rw [← HN.out]; exact hlt.1
      obtain ⟨b0, off, Y, t0, fr, rfl, hbl, hY, hY1, hY2⟩ := (KR.out.below HB.out) i (actA l0[i]) (by simp [hlt2])
      obtain ⟨a, ha⟩ : ∃ a, a = l0[i] := ⟨_, rfl⟩
      rw [← ha] at hY2
      have xs := act_size a
      have xt := act_tu a
      have x1 := act_one a
      clear ha hbl hlt2 hlt
      have r_t := HRT.out
      clear HRT
      have N_x := hide HS.out.lt
      obtain ⟨W6, hW6, r_x, z6, b6⟩ := alloc_nm wr (.cells (actA a) 70)
      clear z6
      replace r_t := keepB b6 r_t
      replace HS := hide (HS.out.below b6)
      replace HB := hide (HB.out.trans (b6.mono HB.out.size))
      clear b6
      have d0 : W6.cell? ⟨wr.heap.size, 0, none⟩ = some (.int .i64 a.kind) := (cell_of_row W6 _ 0 _ _ (0, 0) r_x).trans (act_c0 a)
      have e0 : W6.drew.cell? ⟨wr.heap.size, 0, none⟩ = some (.int .i64 a.kind) := (cell_of_row W6 _ 0 _ _ (0, 0) r_x).trans (act_c0 a)
      have d38 : W6.cell? ⟨wr.heap.size, 38, none⟩ = some (.int .i64 a.fl) := (cell_of_row W6 _ 38 _ _ (0, 0) r_x).trans (act_tail a 0 _ rfl)
      have e38 : W6.drew.cell? ⟨wr.heap.size, 38, none⟩ = some (.int .i64 a.fl) := (cell_of_row W6 _ 38 _ _ (0, 0) r_x).trans (act_tail a 0 _ rfl)
      have d41 : W6.cell? ⟨wr.heap.size, 41, none⟩ = some (.int .i64 a.b) := (cell_of_row W6 _ 41 _ _ (0, 0) r_x).trans (act_tail a 3 _ rfl)
      have e41 : W6.drew.cell? ⟨wr.heap.size, 41, none⟩ = some (.int .i64 a.b) := (cell_of_row W6 _ 41 _ _ (0, 0) r_x).trans (act_tail a 3 _ rfl)
      have d42 : W6.cell? ⟨wr.heap.size, 42, none⟩ = some (.int .i64 a.g) := (cell_of_row W6 _ 42 _ _ (0, 0) r_x).trans (act_tail a 4 _ rfl)
      have e42 : W6.drew.cell? ⟨wr.heap.size, 42, none⟩ = some (.int .i64 a.g) := (cell_of_row W6 _ 42 _ _ (0, 0) r_x).trans (act_tail a 4 _ rfl)
      go_upto_region 14 with (fail)
      clear hY hY1 hY2
      by_cases hE : a.t = tN 60001
      · have hEq : ∀ W, (binOp .eql 63 (.agg (tupA a.t)) (.agg (tupA (tN 60001)))).run Try.prog W = .ok (.bool true) W := fun W => by rw [eql_tu W _ _ _ _ (tupA_tu _) (tupA_tu _), (sameT_iff _ _).2 (by rw [hE])]
        clear hE
        go_wp2_with fail
        have HRT := hide r_t
        clear r_t r_x
        go_roundw
        case rel => exact ⟨i + 1, now, l, u, (by first | rfl | rw [hw]), by go_num, hide ⟨by have := HLT.out; omega, by have := HLT.out; omega, by have := HI.out.2.2.1; omega, by have := HI.out.2.2.2.1; omega, by have := HI.out.2.2.2.2.1; omega, HI.out.2.2.2.2.2⟩, HS, HRT, HB⟩
        case measure => simp [Go.RowKit.intOf]; have := HLT.out; omega
      · have hEq : ∀ W, (binOp .eql 63 (.agg (tupA a.t)) (.agg (tupA (tN 60001)))).run Try.prog W = .ok (.bool false) W := fun W => by rw [eql_tu W _ _ _ _ (tupA_tu _) (tupA_tu _), show sameT a.t.1 (tN 60001).1 = false from by rw [Bool.eq_false_iff]; exact fun h => hE (Subtype.ext ((sameT_iff _ _).1 h))]
        have HE := hide hE
        clear hE
        by_cases hm : i < m
        · have dm : decide ((i : Int) < (m : Int)) = true := by simpa using hm
          have hm2 : i < j1.length := by rw [← HM.out]; exact hm
          obtain ⟨b1, o1, rfl, hbl, hJ⟩ := (KJ.out.below HB.out (Nat.le_refl _)) (by omega)
          have hJi := hJ i hm2
          obtain ⟨x, hx⟩ : ∃ x, x = j1[i] := ⟨_, rfl⟩
          rw [← hx] at hJi
          have hJe : W6.drew.cell? ⟨b1, o1 + i, none⟩ = some (.int .i64 x) := hJi
          clear hx hJ hbl hm2
          by_cases hx0 : 0 ≤ x
          · have dx : decide (0 ≤ x) = true := by simpa using hx0
            by_cases hx6 : x ≤ 60
            · have dy : decide (x ≤ 60) = true := by simpa using hx6
              obtain ⟨n1, hn1⟩ : ∃ n1, n1 = now + x := ⟨_, rfl⟩
              have hw : wrap64 (now + x) = n1 := by rw [hn1]; exact wr64_inV _ (by have := HI.out.2.2.1; omega) (by have := HI.out.2.2.2.1; have := HI.out.2.1; omega)
              have HN1 : Hid (now ≤ n1 ∧ n1 ≤ now + 60) := hide ⟨by omega, by omega⟩
              clear hn1
              clear hx0 hx6
              by_cases hk : a.kind < 2
              · have dk : decide (a.kind < 2) = true := by simpa using hk
                clear hk
                have hinv := keep_other_packet (u := u) (fl := a.fl) (n := n1) (z := n1) HE.out HI.out.2.2.2.2.2
                have KP := hide (fun (W : World) (hs : StoS W p bp bu 256 l u) => packetS_any hs a.t a.fl n1 n1)
                obtain ⟨R, hR⟩ : ∃ R, R = packetS l u a.t a.fl n1 n1 := ⟨_, rfl⟩
                rw [← hR] at hinv KP
                clear hR
                obtain ⟨⟨r1, r2⟩, l1, u1⟩ := R
                dsimp only at hinv
                have HV := hide hinv
                clear hinv
                unfold pinEV encT at KP
                dsimp only at KP
                go_wp2_with fail
                go_at_call 30
                with_reducible refine (KP.out _ HS.out).mono ?_
                rintro e W7 ⟨rfl, hS7, hT7⟩
                replace r_t := keepT hT7 (by have := N_t.out; omega) (by have := N_t.out; omega) r_t
                replace r_x := keepT hT7 (by have := N_x.out; omega) (by have := N_x.out; omega) r_x
                replace HB := hide (Tou.bel HB.out HB.out.size hT7 hbp.out hbu.out)
                replace HS := hide hS7
                clear hS7 hT7
                dsimp only
                clear d0 d38 d41 d42 e0 e38 e41 e42
                have KQ := hide (fun (W : World) (hs : StoS W p bp bu 256 l1 u1) => keepPacket_any hs HV.out.1 HI.out.2.2.1 HN1.out.1 HN1.out.2 (by have := HI.out.2.2.2.1; have := HI.out.2.1; have := HN1.out.2; omega))
                go_wp2_with fail
                go_at_call 30
                with_reducible refine (KQ.out _ HS.out).mono ?_
                rintro e W8 ⟨rfl, hS8, hT8⟩
                replace r_t := keepT hT8 (by have := N_t.out; omega) (by have := N_t.out; omega) r_t
                replace r_x := keepT hT8 (by have := N_x.out; omega) (by have := N_x.out; omega) r_x
                replace HB := hide (Tou.bel HB.out HB.out.size hT8 hbp.out hbu.out)
                replace HS := hide hS8
                clear hS8 hT8
                dsimp only
                have s2 := qs n1
                have o2 := qo n1
                have q2 : (pinA (keepQ z n1)).extract 0 37 = tupA (tN 60001) := pin_tu _
                have N_y := hide HS.out.lt
                obtain ⟨W9, hW9, r_y, z9, b9⟩ := alloc_nm W8 (.cells (pinA (keepQ z n1)) 66)
                clear z9
                replace r_t := keepB b9 r_t
                replace r_x := keepB b9 r_x
                replace HS := hide (HS.out.below b9)
                replace HB := hide (HB.out.trans (b9.mono HB.out.size))
                clear b9
                have d37 : W9.cell? ⟨W8.heap.size, 37, none⟩ = some (.int .i64 z) := (cell_of_row W9 _ 37 _ _ (0, 0) r_y).trans (pin_c37 _)
                have d38 : W9.cell? ⟨W8.heap.size, 38, none⟩ = some (.int .i64 7) := (cell_of_row W9 _ 38 _ _ (0, 0) r_y).trans (pin_c38 _)
                have e37 : W9.drew.cell? ⟨W8.heap.size, 37, none⟩ = some (.int .i64 z) := (cell_of_row W9 _ 37 _ _ (0, 0) r_y).trans (pin_c37 _)
                have e38 : W9.drew.cell? ⟨W8.heap.size, 38, none⟩ = some (.int .i64 7) := (cell_of_row W9 _ 38 _ _ (0, 0) r_y).trans (pin_c38 _)
                go_wp2_with fail
                have HRT := hide r_t
                clear r_t r_x
                go_roundw
                case rel => exact ⟨i + 1, n1, _, _, (by first | rfl | rw [hw]), by go_num, hide ⟨by have := HLT.out; omega, by have := HLT.out; omega, by have := HI.out.2.2.1; have := HN1.out; omega, by have := HI.out.2.2.2.1; have := HN1.out; omega, by have := putP_len (keepQ z n1) l1; have := HV.out.2; have := HI.out.2.2.2.2.1; omega, look_put_self (q := keepQ z n1) l1⟩, HS, HRT, HB⟩
                case measure => simp [Go.RowKit.intOf]; have := HLT.out; omega
              · have dk : decide (a.kind < 2) = false := by simpa using hk
                clear hk
                have hinv := keep_other_begin (most := 256) (u := u) (fl := a.fl) (n := n1) (z := n1) (b := a.b) (g := a.g) HE.out HI.out.2.2.2.2.2 (keep_live HI.out.2.2.1 HN1.out.1 HN1.out.2 (by have := HI.out.2.2.2.1; have := HI.out.2.1; omega))
                have KP := hide (fun (W : World) (hs : StoS W p bp bu 256 l u) => beginS_any hs (by have := HI.out.2.1; have := HI.out.2.2.2.2.1; omega) a.t a.fl n1 n1 a.b a.g)
                obtain ⟨R, hR⟩ : ∃ R, R = beginS 256 l u a.t a.fl n1 n1 a.b a.g := ⟨_, rfl⟩
                rw [← hR] at hinv KP
                clear hR
                obtain ⟨⟨r1, r2⟩, l1, u1⟩ := R
                dsimp only at hinv
                have HV := hide hinv
                clear hinv
                unfold pinEV encT at KP
                dsimp only at KP
                go_wp2_with fail
                go_at_call 29
                with_reducible refine (KP.out _ HS.out).mono ?_
                rintro e W7 ⟨rfl, hS7, hT7⟩
                replace r_t := keepT hT7 (by have := N_t.out; omega) (by have := N_t.out; omega) r_t
                replace r_x := keepT hT7 (by have := N_x.out; omega) (by have := N_x.out; omega) r_x
                replace HB := hide (Tou.bel HB.out HB.out.size hT7 hbp.out hbu.out)
                replace HS := hide hS7
                clear hS7 hT7
                dsimp only
                clear d0 d38 d41 d42 e0 e38 e41 e42
                have KQ := hide (fun (W : World) (hs : StoS W p bp bu 256 l1 u1) => keepPacket_any hs HV.out.1 HI.out.2.2.1 HN1.out.1 HN1.out.2 (by have := HI.out.2.2.2.1; have := HI.out.2.1; have := HN1.out.2; omega))
                go_wp2_with fail
                go_at_call 30
                with_reducible refine (KQ.out _ HS.out).mono ?_
                rintro e W8 ⟨rfl, hS8, hT8⟩
                replace r_t := keepT hT8 (by have := N_t.out; omega) (by have := N_t.out; omega) r_t
                replace r_x := keepT hT8 (by have := N_x.out; omega) (by have := N_x.out; omega) r_x
                replace HB := hide (Tou.bel HB.out HB.out.size hT8 hbp.out hbu.out)
                replace HS := hide hS8
                clear hS8 hT8
                dsimp only
                have s2 := qs n1
                have o2 := qo n1
                have q2 : (pinA (keepQ z n1)).extract 0 37 = tupA (tN 60001) := pin_tu _
                have N_y := hide HS.out.lt
                obtain ⟨W9, hW9, r_y, z9, b9⟩ := alloc_nm W8 (.cells (pinA (keepQ z n1)) 66)
                clear z9
                replace r_t := keepB b9 r_t
                replace r_x := keepB b9 r_x
                replace HS := hide (HS.out.below b9)
                replace HB := hide (HB.out.trans (b9.mono HB.out.size))
                clear b9
                have d37 : W9.cell? ⟨W8.heap.size, 37, none⟩ = some (.int .i64 z) := (cell_of_row W9 _ 37 _ _ (0, 0) r_y).trans (pin_c37 _)
                have d38 : W9.cell? ⟨W8.heap.size, 38, none⟩ = some (.int .i64 7) := (cell_of_row W9 _ 38 _ _ (0, 0) r_y).trans (pin_c38 _)
                have e37 : W9.drew.cell? ⟨W8.heap.size, 37, none⟩ = some (.int .i64 z) := (cell_of_row W9 _ 37 _ _ (0, 0) r_y).trans (pin_c37 _)
                have e38 : W9.drew.cell? ⟨W8.heap.size, 38, none⟩ = some (.int .i64 7) := (cell_of_row W9 _ 38 _ _ (0, 0) r_y).trans (pin_c38 _)
                go_wp2_with fail
                have HRT := hide r_t
                clear r_t r_x
                go_roundw
                case rel => exact ⟨i + 1, n1, _, _, (by first | rfl | rw [hw]), by go_num, hide ⟨by have := HLT.out; omega, by have := HLT.out; omega, by have := HI.out.2.2.1; have := HN1.out; omega, by have := HI.out.2.2.2.1; have := HN1.out; omega, by have := putP_len (keepQ z n1) l1; have := HV.out.2; have := HI.out.2.2.2.2.1; omega, look_put_self (q := keepQ z n1) l1⟩, HS, HRT, HB⟩
                case measure => simp [Go.RowKit.intOf]; have := HLT.out; omega
            · have dy : decide (x ≤ 60) = false := by simpa using hx6
              clear hx0 hx6
              obtain ⟨n1, hn1⟩ : ∃ n1, n1 = now + 1 := ⟨_, rfl⟩
              have hw : wrap64 (now + 1) = n1 := by rw [hn1]; exact wr64_inV _ (by have := HI.out.2.2.1; omega) (by have := HI.out.2.2.2.1; have := HI.out.2.1; omega)
              have HN1 : Hid (now ≤ n1 ∧ n1 ≤ now + 60) := hide ⟨by omega, by omega⟩
              clear hn1
              by_cases hk : a.kind < 2
              · have dk : decide (a.kind < 2) = true := by simpa using hk
                clear hk
                have hinv := keep_other_packet (u := u) (fl := a.fl) (n := n1) (z := n1) HE.out HI.out.2.2.2.2.2
                have KP := hide (fun (W : World) (hs : StoS W p bp bu 256 l u) => packetS_any hs a.t a.fl n1 n1)
                obtain ⟨R, hR⟩ : ∃ R, R = packetS l u a.t a.fl n1 n1 := ⟨_, rfl⟩
                rw [← hR] at hinv KP
                clear hR
                obtain ⟨⟨r1, r2⟩, l1, u1⟩ := R
                dsimp only at hinv
                have HV := hide hinv
                clear hinv
                unfold pinEV encT at KP
                dsimp only at KP
                go_wp2_with fail
                go_at_call 30
                with_reducible refine (KP.out _ HS.out).mono ?_
                rintro e W7 ⟨rfl, hS7, hT7⟩
                replace r_t := keepT hT7 (by have := N_t.out; omega) (by have := N_t.out; omega) r_t
                replace r_x := keepT hT7 (by have := N_x.out; omega) (by have := N_x.out; omega) r_x
                replace HB := hide (Tou.bel HB.out HB.out.size hT7 hbp.out hbu.out)
                replace HS := hide hS7
                clear hS7 hT7
                dsimp only
                clear d0 d38 d41 d42 e0 e38 e41 e42
                have KQ := hide (fun (W : World) (hs : StoS W p bp bu 256 l1 u1) => keepPacket_any hs HV.out.1 HI.out.2.2.1 HN1.out.1 HN1.out.2 (by have := HI.out.2.2.2.1; have := HI.out.2.1; have := HN1.out.2; omega))
                go_wp2_with fail
                go_at_call 30
                with_reducible refine (KQ.out _ HS.out).mono ?_
                rintro e W8 ⟨rfl, hS8, hT8⟩
                replace r_t := keepT hT8 (by have := N_t.out; omega) (by have := N_t.out; omega) r_t
                replace r_x := keepT hT8 (by have := N_x.out; omega) (by have := N_x.out; omega) r_x
                replace HB := hide (Tou.bel HB.out HB.out.size hT8 hbp.out hbu.out)
                replace HS := hide hS8
                clear hS8 hT8
                dsimp only
                have s2 := qs n1
                have o2 := qo n1
                have q2 : (pinA (keepQ z n1)).extract 0 37 = tupA (tN 60001) := pin_tu _
                have N_y := hide HS.out.lt
                obtain ⟨W9, hW9, r_y, z9, b9⟩ := alloc_nm W8 (.cells (pinA (keepQ z n1)) 66)
                clear z9
                replace r_t := keepB b9 r_t
                replace r_x := keepB b9 r_x
                replace HS := hide (HS.out.below b9)
                replace HB := hide (HB.out.trans (b9.mono HB.out.size))
                clear b9
                have d37 : W9.cell? ⟨W8.heap.size, 37, none⟩ = some (.int .i64 z) := (cell_of_row W9 _ 37 _ _ (0, 0) r_y).trans (pin_c37 _)
                have d38 : W9.cell? ⟨W8.heap.size, 38, none⟩ = some (.int .i64 7) := (cell_of_row W9 _ 38 _ _ (0, 0) r_y).trans (pin_c38 _)
                have e37 : W9.drew.cell? ⟨W8.heap.size, 37, none⟩ = some (.int .i64 z) := (cell_of_row W9 _ 37 _ _ (0, 0) r_y).trans (pin_c37 _)
                have e38 : W9.drew.cell? ⟨W8.heap.size, 38, none⟩ = some (.int .i64 7) := (cell_of_row W9 _ 38 _ _ (0, 0) r_y).trans (pin_c38 _)
                go_wp2_with fail
                have HRT := hide r_t
                clear r_t r_x
                go_roundw
                case rel => exact ⟨i + 1, n1, _, _, (by first | rfl | rw [hw]), by go_num, hide ⟨by have := HLT.out; omega, by have := HLT.out; omega, by have := HI.out.2.2.1; have := HN1.out; omega, by have := HI.out.2.2.2.1; have := HN1.out; omega, by have := putP_len (keepQ z n1) l1; have := HV.out.2; have := HI.out.2.2.2.2.1; omega, look_put_self (q := keepQ z n1) l1⟩, HS, HRT, HB⟩
                case measure => simp [Go.RowKit.intOf]; have := HLT.out; omega
              · have dk : decide (a.kind < 2) = false := by simpa using hk
                clear hk
                have hinv := keep_other_begin (most := 256) (u := u) (fl := a.fl) (n := n1) (z := n1) (b := a.b) (g := a.g) HE.out HI.out.2.2.2.2.2 (keep_live HI.out.2.2.1 HN1.out.1 HN1.out.2 (by have := HI.out.2.2.2.1; have := HI.out.2.1; omega))
                have KP := hide (fun (W : World) (hs : StoS W p bp bu 256 l u) => beginS_any hs (by have := HI.out.2.1; have := HI.out.2.2.2.2.1; omega) a.t a.fl n1 n1 a.b a.g)
                obtain ⟨R, hR⟩ : ∃ R, R = beginS 256 l u a.t a.fl n1 n1 a.b a.g := ⟨_, rfl⟩
                rw [← hR] at hinv KP
                clear hR
                obtain ⟨⟨r1, r2⟩, l1, u1⟩ := R
                dsimp only at hinv
                have HV := hide hinv
                clear hinv
                unfold pinEV encT at KP
                dsimp only at KP
                go_wp2_with fail
                go_at_call 29
                with_reducible refine (KP.out _ HS.out).mono ?_
                rintro e W7 ⟨rfl, hS7, hT7⟩
                replace r_t := keepT hT7 (by have := N_t.out; omega) (by have := N_t.out; omega) r_t
                replace r_x := keepT hT7 (by have := N_x.out; omega) (by have := N_x.out; omega) r_x
                replace HB := hide (Tou.bel HB.out HB.out.size hT7 hbp.out hbu.out)
                replace HS := hide hS7
                clear hS7 hT7
                dsimp only
                clear d0 d38 d41 d42 e0 e38 e41 e42
                have KQ := hide (fun (W : World) (hs : StoS W p bp bu 256 l1 u1) => keepPacket_any hs HV.out.1 HI.out.2.2.1 HN1.out.1 HN1.out.2 (by have := HI.out.2.2.2.1; have := HI.out.2.1; have := HN1.out.2; omega))
                go_wp2_with fail
                go_at_call 30
                with_reducible refine (KQ.out _ HS.out).mono ?_
                rintro e W8 ⟨rfl, hS8, hT8⟩
                replace r_t := keepT hT8 (by have := N_t.out; omega) (by have := N_t.out; omega) r_t
                replace r_x := keepT hT8 (by have := N_x.out; omega) (by have := N_x.out; omega) r_x
                replace HB := hide (Tou.bel HB.out HB.out.size hT8 hbp.out hbu.out)
                replace HS := hide hS8
                clear hS8 hT8
                dsimp only
                have s2 := qs n1
                have o2 := qo n1
                have q2 : (pinA (keepQ z n1)).extract 0 37 = tupA (tN 60001) := pin_tu _
                have N_y := hide HS.out.lt
                obtain ⟨W9, hW9, r_y, z9, b9⟩ := alloc_nm W8 (.cells (pinA (keepQ z n1)) 66)
                clear z9
                replace r_t := keepB b9 r_t
                replace r_x := keepB b9 r_x
                replace HS := hide (HS.out.below b9)
                replace HB := hide (HB.out.trans (b9.mono HB.out.size))
                clear b9
                have d37 : W9.cell? ⟨W8.heap.size, 37, none⟩ = some (.int .i64 z) := (cell_of_row W9 _ 37 _ _ (0, 0) r_y).trans (pin_c37 _)
                have d38 : W9.cell? ⟨W8.heap.size, 38, none⟩ = some (.int .i64 7) := (cell_of_row W9 _ 38 _ _ (0, 0) r_y).trans (pin_c38 _)
                have e37 : W9.drew.cell? ⟨W8.heap.size, 37, none⟩ = some (.int .i64 z) := (cell_of_row W9 _ 37 _ _ (0, 0) r_y).trans (pin_c37 _)
                have e38 : W9.drew.cell? ⟨W8.heap.size, 38, none⟩ = some (.int .i64 7) := (cell_of_row W9 _ 38 _ _ (0, 0) r_y).trans (pin_c38 _)
                go_wp2_with fail
                have HRT := hide r_t
                clear r_t r_x
                go_roundw
                case rel => exact ⟨i + 1, n1, _, _, (by first | rfl | rw [hw]), by go_num, hide ⟨by have := HLT.out; omega, by have := HLT.out; omega, by have := HI.out.2.2.1; have := HN1.out; omega, by have := HI.out.2.2.2.1; have := HN1.out; omega, by have := putP_len (keepQ z n1) l1; have := HV.out.2; have := HI.out.2.2.2.2.1; omega, look_put_self (q := keepQ z n1) l1⟩, HS, HRT, HB⟩
                case measure => simp [Go.RowKit.intOf]; have := HLT.out; omega
          · have dx : decide (0 ≤ x) = false := by simpa using hx0
            clear hx0
            obtain ⟨n1, hn1⟩ : ∃ n1, n1 = now + 1 := ⟨_, rfl⟩
            have hw : wrap64 (now + 1) = n1 := by rw [hn1]; exact wr64_inV _ (by have := HI.out.2.2.1; omega) (by have := HI.out.2.2.2.1; have := HI.out.2.1; omega)
            have HN1 : Hid (now ≤ n1 ∧ n1 ≤ now + 60) := hide ⟨by omega, by omega⟩
            clear hn1
            by_cases hk : a.kind < 2
            · have dk : decide (a.kind < 2) = true := by simpa using hk
              clear hk
              have hinv := keep_other_packet (u := u) (fl := a.fl) (n := n1) (z := n1) HE.out HI.out.2.2.2.2.2
              have KP := hide (fun (W : World) (hs : StoS W p bp bu 256 l u) => packetS_any hs a.t a.fl n1 n1)
              obtain ⟨R, hR⟩ : ∃ R, R = packetS l u a.t a.fl n1 n1 := ⟨_, rfl⟩
              rw [← hR] at hinv KP
              clear hR
              obtain ⟨⟨r1, r2⟩, l1, u1⟩ := R
              dsimp only at hinv
              have HV := hide hinv
              clear hinv
              unfold pinEV encT at KP
              dsimp only at KP
              go_wp2_with fail
              go_at_call 30
              with_reducible refine (KP.out _ HS.out).mono ?_
              rintro e W7 ⟨rfl, hS7, hT7⟩
              replace r_t := keepT hT7 (by have := N_t.out; omega) (by have := N_t.out; omega) r_t
              replace r_x := keepT hT7 (by have := N_x.out; omega) (by have := N_x.out; omega) r_x
              replace HB := hide (Tou.bel HB.out HB.out.size hT7 hbp.out hbu.out)
              replace HS := hide hS7
              clear hS7 hT7
              dsimp only
              clear d0 d38 d41 d42 e0 e38 e41 e42
              have KQ := hide (fun (W : World) (hs : StoS W p bp bu 256 l1 u1) => keepPacket_any hs HV.out.1 HI.out.2.2.1 HN1.out.1 HN1.out.2 (by have := HI.out.2.2.2.1; have := HI.out.2.1; have := HN1.out.2; omega))
              go_wp2_with fail
              go_at_call 30
              with_reducible refine (KQ.out _ HS.out).mono ?_
              rintro e W8 ⟨rfl, hS8, hT8⟩
              replace r_t := keepT hT8 (by have := N_t.out; omega) (by have := N_t.out; omega) r_t
              replace r_x := keepT hT8 (by have := N_x.out; omega) (by have := N_x.out; omega) r_x
              replace HB := hide (Tou.bel HB.out HB.out.size hT8 hbp.out hbu.out)
              replace HS := hide hS8
              clear hS8 hT8
              dsimp only
              have s2 := qs n1
              have o2 := qo n1
              have q2 : (pinA (keepQ z n1)).extract 0 37 = tupA (tN 60001) := pin_tu _
              have N_y := hide HS.out.lt
              obtain ⟨W9, hW9, r_y, z9, b9⟩ := alloc_nm W8 (.cells (pinA (keepQ z n1)) 66)
              clear z9
              replace r_t := keepB b9 r_t
              replace r_x := keepB b9 r_x
              replace HS := hide (HS.out.below b9)
              replace HB := hide (HB.out.trans (b9.mono HB.out.size))
              clear b9
              have d37 : W9.cell? ⟨W8.heap.size, 37, none⟩ = some (.int .i64 z) := (cell_of_row W9 _ 37 _ _ (0, 0) r_y).trans (pin_c37 _)
              have d38 : W9.cell? ⟨W8.heap.size, 38, none⟩ = some (.int .i64 7) := (cell_of_row W9 _ 38 _ _ (0, 0) r_y).trans (pin_c38 _)
              have e37 : W9.drew.cell? ⟨W8.heap.size, 37, none⟩ = some (.int .i64 z) := (cell_of_row W9 _ 37 _ _ (0, 0) r_y).trans (pin_c37 _)
              have e38 : W9.drew.cell? ⟨W8.heap.size, 38, none⟩ = some (.int .i64 7) := (cell_of_row W9 _ 38 _ _ (0, 0) r_y).trans (pin_c38 _)
              go_wp2_with fail
              have HRT := hide r_t
              clear r_t r_x
              go_roundw
              case rel => exact ⟨i + 1, n1, _, _, (by first | rfl | rw [hw]), by go_num, hide ⟨by have := HLT.out; omega, by have := HLT.out; omega, by have := HI.out.2.2.1; have := HN1.out; omega, by have := HI.out.2.2.2.1; have := HN1.out; omega, by have := putP_len (keepQ z n1) l1; have := HV.out.2; have := HI.out.2.2.2.2.1; omega, look_put_self (q := keepQ z n1) l1⟩, HS, HRT, HB⟩
              case measure => simp [Go.RowKit.intOf]; have := HLT.out; omega
            · have dk : decide (a.kind < 2) = false := by simpa using hk
              clear hk
              have hinv := keep_other_begin (most := 256) (u := u) (fl := a.fl) (n := n1) (z := n1) (b := a.b) (g := a.g) HE.out HI.out.2.2.2.2.2 (keep_live HI.out.2.2.1 HN1.out.1 HN1.out.2 (by have := HI.out.2.2.2.1; have := HI.out.2.1; omega))
              have KP := hide (fun (W : World) (hs : StoS W p bp bu 256 l u) => beginS_any hs (by have := HI.out.2.1; have := HI.out.2.2.2.2.1; omega) a.t a.fl n1 n1 a.b a.g)
              obtain ⟨R, hR⟩ : ∃ R, R = beginS 256 l u a.t a.fl n1 n1 a.b a.g := ⟨_, rfl⟩
              rw [← hR] at hinv KP
              clear hR
              obtain ⟨⟨r1, r2⟩, l1, u1⟩ := R
              dsimp only at hinv
              have HV := hide hinv
              clear hinv
              unfold pinEV encT at KP
              dsimp only at KP
              go_wp2_with fail
              go_at_call 29
              with_reducible refine (KP.out _ HS.out).mono ?_
              rintro e W7 ⟨rfl, hS7, hT7⟩
              replace r_t := keepT hT7 (by have := N_t.out; omega) (by have := N_t.out; omega) r_t
              replace r_x := keepT hT7 (by have := N_x.out; omega) (by have := N_x.out; omega) r_x
              replace HB := hide (Tou.bel HB.out HB.out.size hT7 hbp.out hbu.out)
              replace HS := hide hS7
              clear hS7 hT7
              dsimp only
              clear d0 d38 d41 d42 e0 e38 e41 e42
              have KQ := hide (fun (W : World) (hs : StoS W p bp bu 256 l1 u1) => keepPacket_any hs HV.out.1 HI.out.2.2.1 HN1.out.1 HN1.out.2 (by have := HI.out.2.2.2.1; have := HI.out.2.1; have := HN1.out.2; omega))
              go_wp2_with fail
              go_at_call 30
              with_reducible refine (KQ.out _ HS.out).mono ?_
              rintro e W8 ⟨rfl, hS8, hT8⟩
              replace r_t := keepT hT8 (by have := N_t.out; omega) (by have := N_t.out; omega) r_t
              replace r_x := keepT hT8 (by have := N_x.out; omega) (by have := N_x.out; omega) r_x
              replace HB := hide (Tou.bel HB.out HB.out.size hT8 hbp.out hbu.out)
              replace HS := hide hS8
              clear hS8 hT8
              dsimp only
              have s2 := qs n1
              have o2 := qo n1
              have q2 : (pinA (keepQ z n1)).extract 0 37 = tupA (tN 60001) := pin_tu _
              have N_y := hide HS.out.lt
              obtain ⟨W9, hW9, r_y, z9, b9⟩ := alloc_nm W8 (.cells (pinA (keepQ z n1)) 66)
              clear z9
              replace r_t := keepB b9 r_t
              replace r_x := keepB b9 r_x
              replace HS := hide (HS.out.below b9)
              replace HB := hide (HB.out.trans (b9.mono HB.out.size))
              clear b9
              have d37 : W9.cell? ⟨W8.heap.size, 37, none⟩ = some (.int .i64 z) := (cell_of_row W9 _ 37 _ _ (0, 0) r_y).trans (pin_c37 _)
              have d38 : W9.cell? ⟨W8.heap.size, 38, none⟩ = some (.int .i64 7) := (cell_of_row W9 _ 38 _ _ (0, 0) r_y).trans (pin_c38 _)
              have e37 : W9.drew.cell? ⟨W8.heap.size, 37, none⟩ = some (.int .i64 z) := (cell_of_row W9 _ 37 _ _ (0, 0) r_y).trans (pin_c37 _)
              have e38 : W9.drew.cell? ⟨W8.heap.size, 38, none⟩ = some (.int .i64 7) := (cell_of_row W9 _ 38 _ _ (0, 0) r_y).trans (pin_c38 _)
              go_wp2_with fail
              have HRT := hide r_t
              clear r_t r_x
              go_roundw
              case rel => exact ⟨i + 1, n1, _, _, (by first | rfl | rw [hw]), by go_num, hide ⟨by have := HLT.out; omega, by have := HLT.out; omega, by have := HI.out.2.2.1; have := HN1.out; omega, by have := HI.out.2.2.2.1; have := HN1.out; omega, by have := putP_len (keepQ z n1) l1; have := HV.out.2; have := HI.out.2.2.2.2.1; omega, look_put_self (q := keepQ z n1) l1⟩, HS, HRT, HB⟩
              case measure => simp [Go.RowKit.intOf]; have := HLT.out; omega
        · have dm : decide ((i : Int) < (m : Int)) = false := by simp; omega
          obtain ⟨n1, hn1⟩ : ∃ n1, n1 = now + 1 := ⟨_, rfl⟩
          have hw : wrap64 (now + 1) = n1 := by rw [hn1]; exact wr64_inV _ (by have := HI.out.2.2.1; omega) (by have := HI.out.2.2.2.1; have := HI.out.2.1; omega)
          have HN1 : Hid (now ≤ n1 ∧ n1 ≤ now + 60) := hide ⟨by omega, by omega⟩
          clear hn1
          by_cases hk : a.kind < 2
          · have dk : decide (a.kind < 2) = true := by simpa using hk
            clear hk
            have hinv := keep_other_packet (u := u) (fl := a.fl) (n := n1) (z := n1) HE.out HI.out.2.2.2.2.2
            have KP := hide (fun (W : World) (hs : StoS W p bp bu 256 l u) => packetS_any hs a.t a.fl n1 n1)
            obtain ⟨R, hR⟩ : ∃ R, R = packetS l u a.t a.fl n1 n1 := ⟨_, rfl⟩
            rw [← hR] at hinv KP
            clear hR
            obtain ⟨⟨r1, r2⟩, l1, u1⟩ := R
            dsimp only at hinv
            have HV := hide hinv
            clear hinv
            unfold pinEV encT at KP
            dsimp only at KP
            go_wp2_with fail
            go_at_call 30
            with_reducible refine (KP.out _ HS.out).mono ?_
            rintro e W7 ⟨rfl, hS7, hT7⟩
            replace r_t := keepT hT7 (by have := N_t.out; omega) (by have := N_t.out; omega) r_t
            replace r_x := keepT hT7 (by have := N_x.out; omega) (by have := N_x.out; omega) r_x
            replace HB := hide (Tou.bel HB.out HB.out.size hT7 hbp.out hbu.out)
            replace HS := hide hS7
            clear hS7 hT7
            dsimp only
            clear d0 d38 d41 d42 e0 e38 e41 e42
            have KQ := hide (fun (W : World) (hs : StoS W p bp bu 256 l1 u1) => keepPacket_any hs HV.out.1 HI.out.2.2.1 HN1.out.1 HN1.out.2 (by have := HI.out.2.2.2.1; have := HI.out.2.1; have := HN1.out.2; omega))
            go_wp2_with fail
            go_at_call 30
            with_reducible refine (KQ.out _ HS.out).mono ?_
            rintro e W8 ⟨rfl, hS8, hT8⟩
            replace r_t := keepT hT8 (by have := N_t.out; omega) (by have := N_t.out; omega) r_t
            replace r_x := keepT hT8 (by have := N_x.out; omega) (by have := N_x.out; omega) r_x
            replace HB := hide (Tou.bel HB.out HB.out.size hT8 hbp.out hbu.out)
            replace HS := hide hS8
            clear hS8 hT8
            dsimp only
            have s2 := qs n1
            have o2 := qo n1
            have q2 : (pinA (keepQ z n1)).extract 0 37 = tupA (tN 60001) := pin_tu _
            have N_y := hide HS.out.lt
            obtain ⟨W9, hW9, r_y, z9, b9⟩ := alloc_nm W8 (.cells (pinA (keepQ z n1)) 66)
            clear z9
            replace r_t := keepB b9 r_t
            replace r_x := keepB b9 r_x
            replace HS := hide (HS.out.below b9)
            replace HB := hide (HB.out.trans (b9.mono HB.out.size))
            clear b9
            have d37 : W9.cell? ⟨W8.heap.size, 37, none⟩ = some (.int .i64 z) := (cell_of_row W9 _ 37 _ _ (0, 0) r_y).trans (pin_c37 _)
            have d38 : W9.cell? ⟨W8.heap.size, 38, none⟩ = some (.int .i64 7) := (cell_of_row W9 _ 38 _ _ (0, 0) r_y).trans (pin_c38 _)
            have e37 : W9.drew.cell? ⟨W8.heap.size, 37, none⟩ = some (.int .i64 z) := (cell_of_row W9 _ 37 _ _ (0, 0) r_y).trans (pin_c37 _)
            have e38 : W9.drew.cell? ⟨W8.heap.size, 38, none⟩ = some (.int .i64 7) := (cell_of_row W9 _ 38 _ _ (0, 0) r_y).trans (pin_c38 _)
            go_wp2_with fail
            have HRT := hide r_t
            clear r_t r_x
            go_roundw
            case rel => exact ⟨i + 1, n1, _, _, (by first | rfl | rw [hw]), by go_num, hide ⟨by have := HLT.out; omega, by have := HLT.out; omega, by have := HI.out.2.2.1; have := HN1.out; omega, by have := HI.out.2.2.2.1; have := HN1.out; omega, by have := putP_len (keepQ z n1) l1; have := HV.out.2; have := HI.out.2.2.2.2.1; omega, look_put_self (q := keepQ z n1) l1⟩, HS, HRT, HB⟩
            case measure => simp [Go.RowKit.intOf]; have := HLT.out; omega
          · have dk : decide (a.kind < 2) = false := by simpa using hk
            clear hk
            have hinv := keep_other_begin (most := 256) (u := u) (fl := a.fl) (n := n1) (z := n1) (b := a.b) (g := a.g) HE.out HI.out.2.2.2.2.2 (keep_live HI.out.2.2.1 HN1.out.1 HN1.out.2 (by have := HI.out.2.2.2.1; have := HI.out.2.1; omega))
            have KP := hide (fun (W : World) (hs : StoS W p bp bu 256 l u) => beginS_any hs (by have := HI.out.2.1; have := HI.out.2.2.2.2.1; omega) a.t a.fl n1 n1 a.b a.g)
            obtain ⟨R, hR⟩ : ∃ R, R = beginS 256 l u a.t a.fl n1 n1 a.b a.g := ⟨_, rfl⟩
            rw [← hR] at hinv KP
            clear hR
            obtain ⟨⟨r1, r2⟩, l1, u1⟩ := R
            dsimp only at hinv
            have HV := hide hinv
            clear hinv
            unfold pinEV encT at KP
            dsimp only at KP
            go_wp2_with fail
            go_at_call 29
            with_reducible refine (KP.out _ HS.out).mono ?_
            rintro e W7 ⟨rfl, hS7, hT7⟩
            replace r_t := keepT hT7 (by have := N_t.out; omega) (by have := N_t.out; omega) r_t
            replace r_x := keepT hT7 (by have := N_x.out; omega) (by have := N_x.out; omega) r_x
            replace HB := hide (Tou.bel HB.out HB.out.size hT7 hbp.out hbu.out)
            replace HS := hide hS7
            clear hS7 hT7
            dsimp only
            clear d0 d38 d41 d42 e0 e38 e41 e42
            have KQ := hide (fun (W : World) (hs : StoS W p bp bu 256 l1 u1) => keepPacket_any hs HV.out.1 HI.out.2.2.1 HN1.out.1 HN1.out.2 (by have := HI.out.2.2.2.1; have := HI.out.2.1; have := HN1.out.2; omega))
            go_wp2_with fail
            go_at_call 30
            with_reducible refine (KQ.out _ HS.out).mono ?_
            rintro e W8 ⟨rfl, hS8, hT8⟩
            replace r_t := keepT hT8 (by have := N_t.out; omega) (by have := N_t.out; omega) r_t
            replace r_x := keepT hT8 (by have := N_x.out; omega) (by have := N_x.out; omega) r_x
            replace HB := hide (Tou.bel HB.out HB.out.size hT8 hbp.out hbu.out)
            replace HS := hide hS8
            clear hS8 hT8
            dsimp only
            have s2 := qs n1
            have o2 := qo n1
            have q2 : (pinA (keepQ z n1)).extract 0 37 = tupA (tN 60001) := pin_tu _
            have N_y := hide HS.out.lt
            obtain ⟨W9, hW9, r_y, z9, b9⟩ := alloc_nm W8 (.cells (pinA (keepQ z n1)) 66)
            clear z9
            replace r_t := keepB b9 r_t
            replace r_x := keepB b9 r_x
            replace HS := hide (HS.out.below b9)
            replace HB := hide (HB.out.trans (b9.mono HB.out.size))
            clear b9
            have d37 : W9.cell? ⟨W8.heap.size, 37, none⟩ = some (.int .i64 z) := (cell_of_row W9 _ 37 _ _ (0, 0) r_y).trans (pin_c37 _)
            have d38 : W9.cell? ⟨W8.heap.size, 38, none⟩ = some (.int .i64 7) := (cell_of_row W9 _ 38 _ _ (0, 0) r_y).trans (pin_c38 _)
            have e37 : W9.drew.cell? ⟨W8.heap.size, 37, none⟩ = some (.int .i64 z) := (cell_of_row W9 _ 37 _ _ (0, 0) r_y).trans (pin_c37 _)
            have e38 : W9.drew.cell? ⟨W8.heap.size, 38, none⟩ = some (.int .i64 7) := (cell_of_row W9 _ 38 _ _ (0, 0) r_y).trans (pin_c38 _)
            go_wp2_with fail
            have HRT := hide r_t
            clear r_t r_x
            go_roundw
            case rel => exact ⟨i + 1, n1, _, _, (by first | rfl | rw [hw]), by go_num, hide ⟨by have := HLT.out; omega, by have := HLT.out; omega, by have := HI.out.2.2.1; have := HN1.out; omega, by have := HI.out.2.2.2.1; have := HN1.out; omega, by have := putP_len (keepQ z n1) l1; have := HV.out.2; have := HI.out.2.2.2.2.1; omega, look_put_self (q := keepQ z n1) l1⟩, HS, HRT, HB⟩
            case measure => simp [Go.RowKit.intOf]; have := HLT.out; omega
    · have hend : (¬ i < n ∧ decide ((i : Int) < (n : Int)) = false) ∨ (i < n ∧ ¬ i < 60 ∧ decide ((i : Int) < (n : Int)) = true ∧ decide ((i : Int) < 60) = false) := by
        by_cases h : i < n
        · exact .inr ⟨h, fun e => hlt ⟨h, e⟩, by simpa using h, by have : ¬ i < 60 := fun e => hlt ⟨h, e⟩; simp; omega⟩
        · exact .inl ⟨h, by simp; omega⟩
      clear hlt
      rcases hend with ⟨hi3, hi1⟩ | ⟨hi3, hi4, hi1, hi2⟩
      all_goals
        have KBZ := hide (fun (W : World) (hs : StoS W p bp bu 256 l u) => keepBusy_any hs (by have := HI.out.2.1; have := HI.out.2.2.2.2.1; omega) HI.out.2.2.2.2.2 HI.out.2.2.1 (by have := HI.out.2.2.2.1; have := HI.out.2.1; omega))
        go_wp2_with fail
        go_at_call 31
        with_reducible refine (KBZ.out _ HS.out).mono ?_
        rintro e W7 ⟨rfl, b7⟩
        replace HS := hide (HS.out.below b7)
        replace HB := hide (HB.out.trans (b7.mono HB.out.size))
        clear b7
        dsimp only
        go_wp2_with fail
        go_at_call 32
        with_reducible refine (KK.out _).mono ?_
        rintro e W8 ⟨rfl, b8⟩
        replace HS := hide (HS.out.below b8)
        replace HB := hide (HB.out.trans (b8.mono HB.out.size))
        clear b8
        dsimp only
        go_wp2_with fail
        go_ret
        exact ⟨rfl, HB.out⟩
end Go.Proofs.Ytbkipfmnbfjkcaa
namespace Go.Proofs.Ytbkipfmnbfjkcaa.storeKeepsRow
open Go.ChangeShapes Go.WideShapes Go.ChangeAt Go.RowKit
set_option linter.unusedVariables false

set_option maxRecDepth 100000 in
theorem lifted (os : Os) (started : os.Started) (H : Type) (enc : TypeId × Value → H) :
    ReturnsInHanded {} Try.checked os 7 .any (Rows.storeKeepsSpec.pre6 enc Try.prog Try.f7 Rows.storeKeepsRow.domain false) (Rows.storeKeepsSpec.post enc Try.prog Try.f7 false true false false) := by
  refine returnsInHanded_of_change_sized (C := Try.checked) ownK started (by kernel_rfl) Try.func7
    (ChangeSpec.witness6 (enc := enc) (C := Try.checked) false ⟨#[], #[.slice none 0 0, .slice none 0 0, .int .i64 0], []⟩ 8 (by kernel_rfl) (by kernel_rfl) (by kernel_rfl) (by kernel_rfl)) ?_
  intro W base args ds gs before hval0 hW hcnd hsz0 _
  have hval : ∀ (j : Nat) t v, Try.f7.params[j]? = some t → args[j]? = some v → Value.okWide Try.prog W .any base t v := hval0
  have hsz : (DataW.weightsEach Try.prog (Try.f7.params.toList ++ Rows.storeKeepsSpec.plain.varTypes Try.prog) (ds ++ gs)).all (· ≤ reachBytes) = true := hsz0
  clear hsz0
  have hW' := hW
  obtain ⟨p, q, hA0, hV, rfl, hfz, hnd⟩ := hW
  have hA : DataW.TrodAll enc Try.prog W 0 (fun _ => true) true Try.f7.params.toList args.toList ds p := hA0
  rw [Try.params7] at hA hval hsz
  obtain ⟨v0, vs0, d0, ds0, p0, q0, hargs, rfl, rfl, h0, r0⟩ := trodAll_cons hA
  obtain ⟨v1, vs1, d1, ds1, p1, q1, rfl, rfl, rfl, h1, r1⟩ := trodAll_cons r0
  obtain ⟨v2, vs2, d2, ds2, p2, q2, rfl, rfl, rfl, h2, r2⟩ := trodAll_cons r1
  obtain ⟨rfl, rfl, rfl⟩ := trodAll_nil r2
  obtain rfl : args = #[v0, v1, v2] := by cases args; simp_all
  obtain ⟨rfl, rfl⟩ := trodVars_none hV
  obtain ⟨a0, len0, c0, rfl⟩ := okWide_slice Try.underlying53 (hval 0 53 v0 rfl rfl)
  have k0 := h0
  have lt0 : ∀ x ∈ p0, x.block < W.heap.size := by obtain ⟨m, hm⟩ := k0; exact DataW.trod_lt m _ _ _ hm
  obtain ⟨l0, rfl, hl0, hc0, hb0⟩ := open_actsQ 8796093022208 h0 (fun elems spare e => le_actsQ (sized_slice hsz (j := 0) (t := 53) (e := 70) rfl (by rw [e]; rfl) Try.underlying53))
  obtain ⟨a1, len1, c1, rfl⟩ := okWide_slice Try.underlying54 (hval 1 54 v1 rfl rfl)
  have k1 := h1
  have lt1 : ∀ x ∈ p1, x.block < W.heap.size := by obtain ⟨m, hm⟩ := k1; exact DataW.trod_lt m _ _ _ hm
  obtain ⟨l1, rfl, hl1, hc1, hb1, hn1⟩ := open_i64sQ 140737488351232 h1 (fun elems spare e => sized_slice hsz (j := 1) (t := 54) (e := 2) rfl (by rw [e]; rfl) Try.underlying54)
  obtain ⟨z2, rfl, rfl, rfl, wf2⟩ := open_int Try.underlying3 (hval 2 3 v2 rfl rfl) h2
  have bd2 := bounds_i64 wf2
  clear hA0 hval0
  refine (storeKeeps_any W a0 l0.length c0 l0 a1 l1.length c1 l1 z2 rfl (by omega) hb0 rfl (by omega) hb1).mono fun e W' ⟨he, bel⟩ => ?_
  subst he
  exact ⟨_, rfl, _, _, _, [], _, [], hW', trodAll_mk1 (shut_bool Try.underlying4 _), (trodAll_cons_mk (Below.trod laidOutK (by kernel_rfl) (of_decide_eq_true (by kernel_rfl)) k0 bel lt0) (trodAll_cons_mk (Below.trod laidOutK (by kernel_rfl) (of_decide_eq_true (by kernel_rfl)) k1 bel lt1) (trodAll_cons_mk (shut_int Try.underlying3 wf2) trodAll_mk0))), rfl, bel.frame _, fun h => by cases h⟩

theorem over : Rows.storeKeepsRow.holds Try.pinned (OpenSpec.ofChange Rows.storeKeepsSpec) :=
  OpenClaim.holds_of_wide 7 Try.f7 rfl rfl rfl rfl rfl rfl rfl ⟨rfl, rfl, rfl, rfl, rfl⟩ rfl rfl rfl rfl rfl (by kernel_rfl) Try.func7 (by kernel_rfl)
    (of_decide_eq_true (by kernel_rfl)) (by unfold Func.isWrapper; first | (rw [if_pos (by decide +kernel)]; kernel_rfl) | (rw [if_neg (by decide +kernel)]; exact ⟨rfl, rfl⟩))
    (fun os started H enc _ => lifted os started H enc)

theorem proved : Rows.StoreKeepsSaid := over
#print axioms proved
end Go.Proofs.Ytbkipfmnbfjkcaa.storeKeepsRow
