/-
  The walk of StoreFull.
-/
import Derived.Test.YtbkipfmnbfjkcaaVz
namespace Go.Proofs.Ytbkipfmnbfjkcaa
open Go.RowKit
set_option maxRecDepth 100000
set_option linter.unusedVariables false
set_option linter.unusedSimpArgs false
attribute [local go_sem ↓] exec_span exec_put exec_build heap_alloc_new heap_old
attribute [local go_sem] spanQ_ptr spanC_some heap_of_drew heap_of_drewN putAt_ptr putOk_ptr oldOk_some World.setRow_alloc_new rs_Flow rs_Pin rs_Com rs_Sto rs_Que rs_tup built_pin0 built_com built_pin pinZ_lit tkZ_lit built_que
def pinF (j : Nat) : PinR := ⟨tN (1 + (j : Int)), 2, 1, ⟨6, 1, 1⟩⟩
def fullL (i : Nat) : List PinR := (List.range i).map pinF
def fullU (i : Nat) : List ((Int × Int) × Int) := if i = 0 then [] else [((2, 1), 1)]
theorem fullL_len (i : Nat) : (fullL i).length = i := by simp [fullL]
theorem fullL_succ (i : Nat) : fullL (i + 1) = fullL i ++ [pinF i] := by simp [fullL, List.range_succ]
theorem tN_inj {a b : Int} (h : tN a = tN b) : a = b := by
  have := congrArg (fun k : TK => k.1.s) h
  exact this
theorem rightT_tN (n : Int) : rightT (tN n).1 = portOk n := by
  have h1 : rightL false (10 :: List.replicate 15 0) = true := by rfl
  have h2 : rightL false (List.replicate 16 0) = true := by rfl
  have h3 : portOk 80 = true := by rfl
  have h4 : protoOk 6 = true := by rfl
  unfold rightT tN
  dsimp only
  rw [h1, h2, h3, h4]
  simp
theorem rightT_ok {n : Int} (h0 : 0 ≤ n) (h1 : n ≤ 65535) : rightT (tN n).1 = true := by
  rw [rightT_tN]; simp [portOk, h0, h1]
theorem fullL_mem {i : Nat} {q : PinR} (h : q ∈ fullL i) : ∃ j, j < i ∧ q = pinF j := by
  unfold fullL at h
  obtain ⟨j, hj, rfl⟩ := List.mem_map.1 h
  exact ⟨j, by simpa using hj, rfl⟩
theorem look_none {t : TK} {l : List PinR} (h : ∀ q ∈ l, t ≠ q.t) : lookP t l = none := by
  unfold lookP
  rw [List.find?_eq_none]
  intro q hq
  simpa using h q hq
theorem get_none {t : TK} {now : Int} {l : List PinR} (h : ∀ q ∈ l, t ≠ q.t) : getP t now l = none := by unfold getP; rw [look_none h]; rfl
theorem putP_miss {q : PinR} : ∀ {l : List PinR}, (∀ a ∈ l, q.t ≠ a.t) → putP q l = l ++ [q]
  | [], _ => rfl
  | a :: l, h => by
    unfold putP
    rw [if_neg (h a List.mem_cons_self), putP_miss (fun x hx => h x (List.mem_cons_of_mem _ hx))]; rfl
theorem putP_hit {q a : PinR} {B : List PinR} (ha : q.t = a.t) : ∀ {A : List PinR}, (∀ x ∈ A, q.t ≠ x.t) → putP q (A ++ a :: B) = A ++ q :: B
  | [], _ => by simp [putP, ha]
  | x :: A, h => by
    rw [List.cons_append]
    unfold putP
    rw [if_neg (h x List.mem_cons_self), putP_hit ha (fun y hy => h y (List.mem_cons_of_mem _ hy))]; rfl
theorem live_full {now : Int} (h : liveB ⟨6, 1, 1⟩ now = true) {i : Nat} : ∀ q ∈ fullL i, liveB q.f now = true := fun q hq => by
  obtain ⟨j, _, rfl⟩ := fullL_mem hq
  exact h
theorem new_full (i : Nat) : ∀ q ∈ fullL i, tN (1 + (i : Int)) ≠ q.t := fun q hq h => by
  obtain ⟨j, hj, rfl⟩ := fullL_mem hq
  have := tN_inj h
  omega
theorem begin_full {m i : Nat} (him : i < m) (hm : m ≤ 40) : beginS (m : Int) (fullL i) (fullU i) (tN (1 + (i : Int))) 2 1 1 2 1 = ((pinF i, 0), (fullL (i + 1), fullU (i + 1))) := by
  have hr := rightT_ok (n := 1 + (i : Int)) (by omega) (by omega)
  have hg := get_none (now := 1) (new_full i)
  have hl : lenL 1 (fullL i) = i := by unfold lenL; rw [List.filter_eq_self.2 (live_full (by rfl)), fullL_len]
  have hsw : sweepL 1 (fullL i) = fullL i := List.filter_eq_self.2 (live_full (by rfl))
  have hb : beginF (tN (1 + (i : Int))).1.p 2 1 = (⟨6, 1, 1⟩, 0) := by rfl
  have hc : clockB 1 = true := by rfl
  have ho : okB 2 1 = true := by rfl
  have hu : untP (pinF i) 1 (fullU i) = fullU (i + 1) := by
    unfold untP fullU
    by_cases h0 : i = 0
    · subst h0; rfl
    · rw [if_neg h0, if_neg (by omega)]; rfl
  unfold beginS
  rw [hr, hc, ho, hg, hb, hl, hsw, if_neg (by simp), if_neg (by simp), if_neg (by simp), if_neg (by omega)]
  have hp : putP (pinF i) (fullL i) = fullL (i + 1) := by rw [fullL_succ]; exact putP_miss (new_full i)
  show ((pinF i, 0), (putP (pinF i) (fullL i), untP (pinF i) 1 (fullU i))) = _
  rw [hp, hu]
theorem begin_over {m : Nat} (hm : m ≤ 40) (hm0 : 0 < m) : beginS (m : Int) (fullL m) (fullU m) (tN (1 + (m : Int))) 2 2 2 2 1 = ((pinZ, 4), (fullL m, fullU m)) := by
  have hr := rightT_ok (n := 1 + (m : Int)) (by omega) (by omega)
  have hg := get_none (now := 2) (new_full m)
  have hl : lenL 2 (fullL m) = m := by unfold lenL; rw [List.filter_eq_self.2 (live_full (by rfl)), fullL_len]
  have hb : beginF (tN (1 + (m : Int))).1.p 2 2 = (⟨6, 1, 2⟩, 0) := by rfl
  have hc : clockB 2 = true := by rfl
  have ho : okB 2 1 = true := by rfl
  unfold beginS
  rw [hr, hc, ho, hg, hb, hl, if_neg (by simp), if_neg (by simp), if_neg (by simp), if_pos (by omega)]
def restL (m k : Nat) : List PinR := ((List.range m).drop (k + 1)).map pinF
theorem full_split {m k : Nat} (h : k < m) : fullL m = fullL k ++ pinF k :: restL m k := by
  unfold fullL restL
  have : List.range m = List.range k ++ k :: (List.range m).drop (k + 1) := by
    have h1 := (List.take_append_drop k (List.range m)).symm
    rw [List.take_range, Nat.min_eq_left (by omega), List.drop_eq_getElem_cons (by simpa using h)] at h1
    simpa using h1
  rw [this, List.map_append, List.map_cons]
  congr 2
  rw [← this]
theorem rest_mem {m k : Nat} {q : PinR} (h : q ∈ restL m k) : ∃ j, k < j ∧ j < m ∧ q = pinF j := by
  unfold restL at h
  obtain ⟨j, hj, rfl⟩ := List.mem_map.1 h
  obtain ⟨i, hi, hij⟩ := List.getElem_of_mem hj
  rw [List.getElem_drop, List.getElem_range] at hij
  simp at hi
  exact ⟨j, by omega, by omega, rfl⟩
theorem rest_len {m k : Nat} : (restL m k).length = m - (k + 1) := by simp [restL]
def pinO3 (k : Nat) : PinR := ⟨tN (1 + (k : Int)), 2, 1, ⟨6, 3, 3⟩⟩
def midL (m k : Nat) : List PinR := fullL k ++ pinO3 k :: restL m k
theorem packet_full {m k : Nat} (h : k < m) (hm : m ≤ 40) : packetS (fullL m) (fullU m) (tN (1 + (k : Int))) 4 3 3 = ((pinO3 k, 0), (midL m k, [((2, 1), 3)])) := by
  have hr := rightT_ok (n := 1 + (k : Int)) (by omega) (by omega)
  have hg : getP (tN (1 + (k : Int))) 3 (fullL m) = some (pinF k) := by
    have hlk : lookP (tN (1 + (k : Int))) (fullL m) = some (pinF k) := by
      unfold lookP
      rw [full_split h, List.find?_append, List.find?_eq_none.2 (fun q hq => by simpa using new_full k q hq)]
      simp [pinF]
    unfold getP
    rw [hlk]
    rfl
  have hs : stepF (pinO (some (pinF k))).f 4 3 = (⟨6, 3, 3⟩, 0) := by rfl
  have hc : clockB 3 = true := by rfl
  have hu : untP (pinO3 k) 3 (fullU m) = [((2, 1), 3)] := by unfold untP fullU; rw [if_neg (by omega)]; rfl
  unfold packetS
  rw [hr, hc, hg]
  rw [hs, if_neg (by simp), if_neg (by simp), if_neg (by simp)]
  have hp : putP (pinO3 k) (fullL m) = midL m k := by rw [full_split h]; exact putP_hit (q := pinO3 k) (a := pinF k) rfl (new_full k)
  show ((pinO3 k, 0), (putP (pinO3 k) (fullL m), untP (pinO3 k) 3 (fullU m))) = _
  rw [hp, hu]
def pinN (m : Nat) : PinR := ⟨tN (1 + (m : Int)), 2, 1, ⟨6, 1, 4⟩⟩
def endL (m k : Nat) : List PinR := fullL k ++ restL m k ++ [pinN m]
theorem mid_sweep {m k : Nat} : (midL m k).filter (fun q => liveB q.f 4) = fullL k ++ restL m k := by
  unfold midL
  rw [List.filter_append, List.filter_eq_self.2 (live_full (by rfl)), List.filter_cons_of_neg (by rw [show liveB (pinO3 k).f 4 = false by rfl]; simp), List.filter_eq_self.2 (fun q hq => by obtain ⟨j, _, _, rfl⟩ := rest_mem hq; rfl)]
theorem new_mid {m k : Nat} (h : k < m) {q : PinR} (hq : q ∈ fullL k ++ restL m k) : tN (1 + (m : Int)) ≠ q.t := fun e => by
  rcases List.mem_append.1 hq with hq | hq
  · obtain ⟨j, hj, rfl⟩ := fullL_mem hq
    have := tN_inj e
    omega
  · obtain ⟨j, _, hj, rfl⟩ := rest_mem hq
    have := tN_inj e
    omega
theorem begin_again {m k : Nat} (h : k < m) (hm : m ≤ 40) : beginS (m : Int) (midL m k) [((2, 1), 3)] (tN (1 + (m : Int))) 2 4 4 2 1 = ((pinN m, 0), (endL m k, [((2, 1), 4)])) := by
  have hr := rightT_ok (n := 1 + (m : Int)) (by omega) (by omega)
  have hg : getP (tN (1 + (m : Int))) 4 (midL m k) = none := get_none (fun q hq => by
    unfold midL at hq
    rcases List.mem_append.1 hq with hq | hq
    · exact new_mid h (List.mem_append_left _ hq)
    · rcases List.mem_cons.1 hq with rfl | hq
      · intro e; have := tN_inj e; omega
      · exact new_mid h (List.mem_append_right _ hq))
  have hl : lenL 4 (midL m k) = m - 1 := by
    unfold lenL
    rw [mid_sweep, List.length_append, fullL_len, rest_len]; omega
  have hsw : sweepL 4 (midL m k) = fullL k ++ restL m k := mid_sweep
  have hb : beginF (tN (1 + (m : Int))).1.p 2 4 = (⟨6, 1, 4⟩, 0) := by rfl
  have hc : clockB 4 = true := by rfl
  have ho : okB 2 1 = true := by rfl
  have hu : untP (pinN m) 4 [((2, 1), 3)] = [((2, 1), 4)] := by rfl
  unfold beginS
  rw [hr, hc, ho, hg, hb, hl, hsw, if_neg (by simp), if_neg (by simp), if_neg (by simp), if_neg (by omega)]
  have hp : putP (pinN m) (fullL k ++ restL m k) = endL m k := putP_miss (fun a ha => new_mid h ha)
  show ((pinN m, 0), (putP (pinN m) (fullL k ++ restL m k), untP (pinN m) 4 [((2, 1), 3)])) = _
  rw [hp, hu]
theorem end_live {m k : Nat} : ∀ q ∈ endL m k, liveB q.f 4 = true ∧ q.b = 2 ∧ q.g = 1 := fun q hq => by
  unfold endL at hq
  rcases List.mem_append.1 hq with hq | hq
  · rcases List.mem_append.1 hq with hq | hq
    · obtain ⟨j, _, rfl⟩ := fullL_mem hq; exact ⟨rfl, rfl, rfl⟩
    · obtain ⟨j, _, _, rfl⟩ := rest_mem hq; exact ⟨rfl, rfl, rfl⟩
  · simp at hq; subst hq; exact ⟨rfl, rfl, rfl⟩
theorem end_length {m k : Nat} (h : k < m) : (endL m k).length = m := by
  unfold endL
  rw [List.length_append, List.length_append, fullL_len, rest_len]; simp; omega
theorem end_len {m k : Nat} (h : k < m) : lenL 4 (endL m k) = m := by
  unfold lenL
  rw [List.filter_eq_self.2 (fun q hq => (end_live q hq).1), end_length h]
theorem end_cnt {m k : Nat} (h : k < m) : cntL 2 1 4 (endL m k) = m := by
  unfold cntL
  rw [List.filter_eq_self.2 (fun q hq => by obtain ⟨h1, h2, h3⟩ := end_live q hq; rw [h1, h2, h3]; rfl), end_length h]
set_option maxHeartbeats 16000000 in
theorem storeFull_any (w : World) (zm zk : Int) : Calls Try.prog 9 #[.int .i64 zm, .int .i64 zk] w (RetV w (.bool true)) := by
  have hm0 := count_lt zm (n := 40) (by omega)
  have KC : Hid (∀ W, Calls Try.prog 27 #[.int .i64 zm, .int .i64 40] W fun e w' => e = .returned (.int .i64 (countS zm 40 : Nat)) ∧ W = w') := hide (fun W => count_any zm 40 W (by omega) (by omega))
  obtain ⟨m1, hm1⟩ : ∃ x, x = countS zm 40 := ⟨_, rfl⟩
  rw [← hm1] at KC hm0
  obtain ⟨m, hm⟩ : ∃ m, m = 1 + m1 := ⟨_, rfl⟩
  have hk0 := count_lt zk (n := m) (by omega)
  have KD := hide (fun W => count_any zk m W (by omega) (by omega))
  obtain ⟨k, hk⟩ : ∃ x, x = countS zk m := ⟨_, rfl⟩
  rw [← hk] at KD hk0
  have HM : Hid (m ≤ 40 ∧ 0 < m) := hide ⟨by omega, by omega⟩
  have HK : Hid (k < m) := hide hk0
  have HMI : Hid (wrap64 (1 + (m1 : Int)) = (m : Int)) := hide (by rw [wr64_inV _ (by omega) (by omega)]; omega)
  have HMI2 : Hid (1 + (m1 : Int) = (m : Int)) := hide (by omega)
  have KT := hide (fun W (i : Nat) (h : i ≤ 40) => tuple20_any W (i : Int) (by omega) (by omega))
  have KB := hide (fun (W : World) (p bp bu i : Nat) (hi : i < m) (hs : StoS W p bp bu (m : Int) (fullL i) (fullU i)) => by
    have := beginS_any hs (by rw [fullL_len]; have := HM.out; omega) (tN (1 + (i : Int))) 2 1 1 2 1
    rw [begin_full hi HM.out.1] at this
    exact this)
  have KO := hide (fun (W : World) (p bp bu : Nat) (hs : StoS W p bp bu (m : Int) (fullL m) (fullU m)) => by
    have := beginS_any hs (by rw [fullL_len]; have := HM.out; omega) (tN (1 + (m : Int))) 2 2 2 2 1
    rw [begin_over HM.out.1 HM.out.2] at this
    exact this)
  have KP := hide (fun (W : World) (p bp bu : Nat) (hs : StoS W p bp bu (m : Int) (fullL m) (fullU m)) => by
    have := packetS_any hs (tN (1 + (k : Int))) 4 3 3
    rw [packet_full HK.out HM.out.1] at this
    exact this)
  have hml : (midL m k).length ≤ 100000 := by have h1 := HM.out; have h2 := HK.out; unfold midL; rw [List.length_append, List.length_cons, fullL_len, rest_len]; omega
  have KA := hide (fun (W : World) (p bp bu : Nat) (hs : StoS W p bp bu (m : Int) (midL m k) [((2, 1), 3)]) => by
    have := beginS_any hs hml (tN (1 + (m : Int))) 2 4 4 2 1
    rw [begin_again HK.out HM.out.1] at this
    exact this)
  have hel : (endL m k).length ≤ 100000 := by have h1 := HM.out; rw [end_length HK.out]; omega
  have KL := hide (fun (W : World) (p bp bu : Nat) (hs : StoS W p bp bu (m : Int) (endL m k) [((2, 1), 4)]) => by
    have := lenS_any hs hel 4
    rw [end_len HK.out] at this
    exact this)
  have KN := hide (fun (W : World) (p bp bu : Nat) (hs : StoS W p bp bu (m : Int) (endL m k) [((2, 1), 4)]) => by
    have := cntS_any hs hel 2 1 4
    rw [end_cnt HK.out] at this
    exact this)
  have KK := hide (fun W => known20_any W)
  have zs := pin_size pinZ
  have zx := pin_x pinZ
  have z1 := pin_one pinZ
  have s2 := pin_size (pinO3 k)
  have o2 := pin_one (pinO3 k)
  have s3 := pin_size (pinN m)
  have o3 := pin_one (pinN m)
  have HPF : Hid (∀ i, (pinA (pinF i)).size = 42 ∧ allOne (pinA (pinF i)) = true) := hide fun i => ⟨pin_size _, pin_one _⟩
  unfold pinEV at KB KO KP KA
  dsimp only at KB KO KP KA
  clear hm1 hm hk hm0 hk0 hml hel
  have HB := hide (Below.refl w.heap.size w)
  go_enter Try.func9, Try.ntmps9
  go_wp2_with fail
  go_at_call 27
  with_reducible refine (KC.out _).mono ?_
  rintro e w9 ⟨rfl, rfl⟩
  dsimp only
  have hmi := HMI.out
  go_wp2_with fail
  go_at_call 27
  with_reducible refine (KD.out _).mono ?_
  rintro e w9 ⟨rfl, rfl⟩
  dsimp only
  go_wp2_with fail
  go_at_call 26
  with_reducible refine (newS_any _ (m : Int)).mono ?_
  rintro e W1 ⟨b1, hN⟩
  rcases hN with ⟨_, p, bp, bu, rfl, h1, h2, hS⟩ | ⟨hN, _⟩
  case inr => exact absurd (by have := HM.out; omega) hN
  have hbp : Hid (w.heap.size ≤ bp) := hide (by have := HB.out.size; omega)
  have hbu : Hid (w.heap.size ≤ bu) := hide (by have := HB.out.size; omega)
  have HS := hide hS
  clear h1 h2 hS
  replace HB := hide (HB.out.trans (b1.mono HB.out.size))
  clear b1
  dsimp only
  clear KC KD
  have HB1 := HB
  have HS1 := HS
  go_wp2_with fail
  go_loopw [7] (fun v wr => ∃ i : Nat, i ≤ m ∧ v = .int .i64 (i : Int) ∧ Hid (StoS wr p bp bu (m : Int) (fullL i) (fullU i)) ∧ Hid (Below w.heap.size w wr)) (fun v _ => m - (intOf v).toNat)
  case atStart => exact ⟨0, Nat.zero_le _, rfl, HS, HB⟩
  case round =>
    obtain ⟨i, hi, rfl, HSr, HBr⟩ := hrel
    by_cases hlt : i < m
    · have hidx : decide ((i : Int) < (m : Int)) = true := by simpa using hlt
      have HLT := hide hlt
      have HS := HSr
      have HB := HBr
      have s1 := (HPF.out i).1
      have o1 := (HPF.out i).2
      clear hlt
      have KT1 := hide (fun W => KT.out W i (by have := HM.out; have := HLT.out; omega))
      have KB1 := hide (fun W p bp bu hs => KB.out W p bp bu i HLT.out hs)
      go_wp2_with fail
      go_at_call 28
      with_reducible refine (KT1.out _).mono ?_
      rintro e W2 ⟨rfl, b2⟩
      replace HS := hide (HS.out.below b2)
      replace HB := hide (HB.out.trans (b2.mono HB.out.size))
      clear b2
      dsimp only
      go_wp2_with fail
      go_at_call 29
      with_reducible refine (KB1.out _ _ _ _ HS.out).mono ?_
      rintro e W3 ⟨rfl, hS3, hT3⟩
      replace HB := hide (Tou.bel HB.out HB.out.size hT3 hbp.out hbu.out)
      replace HS := hide hS3
      clear hS3 hT3
      dsimp only
      have N_a := hide HS.out.lt
      obtain ⟨W4, hW4, r_a, z4, b4⟩ := alloc_nm W3 (.cells (pinA (pinF i)) 66)
      clear z4
      replace HS := hide (HS.out.below b4)
      replace HB := hide (HB.out.trans (b4.mono HB.out.size))
      clear b4
      go_wp2_with fail
      go_roundw
      case rel => exact ⟨i + 1, HLT.out, by go_num, HS, HB⟩
      case measure => simp [Go.RowKit.intOf]; have := HLT.out; omega
    · obtain rfl : i = m := by omega
      have hidx : decide ((i : Int) < (i : Int)) = false := by simp
      have HS := HSr
      have HB := HBr
      clear hi hlt HSr HBr
      have KT1 := hide (fun W => KT.out W i HM.out.1)
      have KT2 := hide (fun W => KT.out W k (by have := HM.out; have := HK.out; omega))
      go_wp2_with fail
      go_at_call 28
      with_reducible refine (KT1.out _).mono ?_
      rintro e W5 ⟨rfl, b5⟩
      replace HS := hide (HS.out.below b5)
      replace HB := hide (HB.out.trans (b5.mono HB.out.size))
      clear b5
      dsimp only
      go_wp2_with fail
      go_at_call 29
      with_reducible refine (KO.out _ _ _ _ HS.out).mono ?_
      rintro e W6 ⟨rfl, hS6, hT6⟩
      replace HB := hide (Tou.bel HB.out HB.out.size hT6 hbp.out hbu.out)
      replace HS := hide hS6
      clear hS6 hT6
      dsimp only
      have N_a := hide HS.out.lt
      obtain ⟨W7, hW7, r_a, z7, b7⟩ := alloc_nm W6 (.cells (pinA pinZ) 66)
      clear z7
      have hS7 : W7.setRow W6.heap.size (pinA pinZ) = W7 := by rw [← hW7, World.setRow_alloc_new]
      replace HS := hide (HS.out.below b7)
      replace HB := hide (HB.out.trans (b7.mono HB.out.size))
      clear b7
      go_wp2_with fail
      go_at_call 28
      with_reducible refine (KT2.out _).mono ?_
      rintro e W8 ⟨rfl, b8⟩
      replace r_a := keepB b8 r_a
      replace HS := hide (HS.out.below b8)
      replace HB := hide (HB.out.trans (b8.mono HB.out.size))
      clear b8
      dsimp only
      go_wp2_with fail
      go_at_call 30
      with_reducible refine (KP.out _ _ _ _ HS.out).mono ?_
      rintro e W9 ⟨rfl, hS9, hT9⟩
      replace r_a := keepT hT9 (by have := N_a.out; omega) (by have := N_a.out; omega) r_a
      replace HB := hide (Tou.bel HB.out HB.out.size hT9 hbp.out hbu.out)
      replace HS := hide hS9
      clear hS9 hT9
      dsimp only
      have N_b := hide HS.out.lt
      obtain ⟨W10, hW10, r_b, z10, b10⟩ := alloc_nm W9 (.cells (pinA (pinO3 k)) 66)
      clear z10
      replace r_a := keepB b10 r_a
      replace HS := hide (HS.out.below b10)
      replace HB := hide (HB.out.trans (b10.mono HB.out.size))
      clear b10
      go_wp2_with fail
      go_at_call 28
      with_reducible refine (KT1.out _).mono ?_
      rintro e W11 ⟨rfl, b11⟩
      replace r_a := keepB b11 r_a
      replace r_b := keepB b11 r_b
      replace HS := hide (HS.out.below b11)
      replace HB := hide (HB.out.trans (b11.mono HB.out.size))
      clear b11
      dsimp only
      go_wp2_with fail
      go_at_call 29
      with_reducible refine (KA.out _ _ _ _ HS.out).mono ?_
      rintro e W12 ⟨rfl, hS12, hT12⟩
      replace r_a := keepT hT12 (by have := N_a.out; omega) (by have := N_a.out; omega) r_a
      replace r_b := keepT hT12 (by have := N_b.out; omega) (by have := N_b.out; omega) r_b
      replace HB := hide (Tou.bel HB.out HB.out.size hT12 hbp.out hbu.out)
      replace HS := hide hS12
      clear hS12 hT12
      dsimp only
      have N_c := hide HS.out.lt
      obtain ⟨W13, hW13, r_c, z13, b13⟩ := alloc_nm W12 (.cells (pinA (pinN i)) 66)
      clear z13
      replace r_a := keepB b13 r_a
      replace r_b := keepB b13 r_b
      replace HS := hide (HS.out.below b13)
      replace HB := hide (HB.out.trans (b13.mono HB.out.size))
      clear b13
      have J1 := hide (fun q : BW W13 => KL.out _ _ _ _ (HS.out.below q.below))
      have J2 := hide (fun q : BW W13 => KN.out _ _ _ _ (HS.out.below q.below))
      have e1 : ((i : Int) == (i : Int)) = true := by simp
      go_upto_region 15 with (fail)
      have R_a : ∀ q : BW W13, q.w.heap[W6.heap.size]? = some (.cells (pinA pinZ) 66 (0, 0)) := fun q => q.block r_a
      have R_b : ∀ q : BW W13, q.w.heap[W9.heap.size]? = some (.cells (pinA (pinO3 k)) 66 (0, 0)) := fun q => q.block r_b
      have R_c : ∀ q : BW W13, q.w.heap[W12.heap.size]? = some (.cells (pinA (pinN i)) 66 (0, 0)) := fun q => q.block r_c
      first | refine wp_region_belowS W13 (Below.refl _ _) ?_ | refine wp_region_below W13 (Below.refl _ _) (by kernel_rfl) (by kernel_rfl) ?_
      (try simp only [List.append_eq, List.cons_append, List.nil_append])
      repeat
        first
        | (go_big_quiet_step (first
          | (go_at_call 33; with_reducible exact Calls.bel (J1.out _))
          | (go_at_call 34; with_reducible exact Calls.bel (J2.out _))
          | (go_at_call 32; with_reducible exact Calls.bel (KK.out _))
          | fail))
        | (go_big_quiet_want; apply quiet_span; (intro p; go_simp; rfl); (try simp only [Act.put, List.setIfInBounds_toArray, List.set_cons_zero, List.set_cons_succ]); go_big_quiet_on)
      refine wpQuiet_nil ?_
      intro _ hw'
      obtain ⟨pq14, hw''⟩ := hw'
      subst hw''
      clear R_a
      clear R_b
      clear R_c
      obtain ⟨W14, b14⟩ := pq14
      dsimp only
      replace r_a := keepB b14 r_a
      replace r_b := keepB b14 r_b
      replace r_c := keepB b14 r_c
      replace HS := hide (HS.out.below b14)
      replace HB := hide (HB.out.trans (b14.mono HB.out.size))
      clear b14
      go_wp2
      go_ret
      exact ⟨rfl, HB.out⟩
end Go.Proofs.Ytbkipfmnbfjkcaa
