/-
  The walk of the statement OwnerOne.
-/
import Derived.Test.YtlpihjbnfdfbaaaOk
namespace Go.Proofs.Ytlpihjbnfdfbaaa
open Go.RowKit
set_option linter.unusedVariables false
set_option maxRecDepth 100000

/-- the first ones, so many times. -/
def repI (i z : Nat) : List Int := List.replicate i (z : Int)
theorem repI_snoc (i z : Nat) : repI i z ++ [(z : Int)] = repI (i + 1) z := by unfold repI; rw [List.replicate_succ']
theorem repI_len (i z : Nat) : (repI i z).length = i := by simp [repI]

set_option maxHeartbeats 32000000 in
theorem ownerOne_any (w : World) (za zb : Int) (h : BitVec 64) (zx zy : Int) :
    Calls Try.prog 7 #[.int .i64 za, .int .i64 zb, .int .u64 (h.toNat : Int), .int .i64 zx, .int .i64 zy] w fun e w' => e = .returned (.bool true) ∧ Below w.heap.size w w' := by
  have hx0 := count_lt zx (n := 16) (by omega)
  have hy0 := count_lt zy (n := 16) (by omega)
  have ha0 := count_lt za (n := 65536) (by omega)
  have hb0 := count_lt zb (n := 65536) (by omega)
  have KX := hide (fun W => count_any zx 16 W (by omega) (by omega))
  have KY := hide (fun W => count_any zy 16 W (by omega) (by omega))
  have KA := hide (fun W => count_any za 65536 W (by omega) (by omega))
  have KB := hide (fun W => count_any zb 65536 W (by omega) (by omega))
  obtain ⟨x, hx⟩ : ∃ x, x = countS zx 16 := ⟨_, rfl⟩
  obtain ⟨y, hy⟩ : ∃ y, y = countS zy 16 := ⟨_, rfl⟩
  obtain ⟨a, ha⟩ : ∃ a, a = countS za 65536 := ⟨_, rfl⟩
  obtain ⟨b, hb⟩ : ∃ b, b = countS zb 65536 := ⟨_, rfl⟩
  rw [← hx] at KX hx0
  rw [← hy] at KY hy0
  rw [← ha] at KA ha0
  rw [← hb] at KB hb0
  clear hx hy ha hb
  by_cases hxy : x = y
  · subst hxy
    obtain ⟨N, hN⟩ : ∃ N, N = h.toNat := ⟨_, rfl⟩
    rw [← hN]
    go_enter Try.func7, Try.ntmps7
    go_wp2_with fail
    refine (KX.out _).mono ?_
    rintro e w' ⟨rfl, rfl⟩
    go_wp2_with fail
    refine (KY.out _).mono ?_
    rintro e w' ⟨rfl, rfl⟩
    go_wp2_with fail
    refine (known11_any _).mono ?_
    rintro e w5 ⟨rfl, hb5⟩
    have HB5 := hide hb5
    clear hb5
    go_wp2
    go_ret
    exact ⟨rfl, HB5.out⟩
  · have hpx := pow_lt16 hx0
    have hpy := pow_lt16 hy0
    have hp := or_lt16 hpx hpy
    have hor1 : bits BinOp.or IntKind.i64 (wrap64 (2 ^ x)) (wrap64 (2 ^ y)) = ((2 ^ x ||| 2 ^ y : Nat) : Int) := by rw [shl_one hx0, shl_one hy0, i64_or_nat _ _ (by omega) (by omega)]
    -- what one list and its rank are
    have HALL : Hid (∀ n : Nat, n < 65536 → (∀ W, Calls Try.prog 20 #[.int .i64 ((n ||| (2 ^ x ||| 2 ^ y) : Nat) : Int)] W fun e w' => ∃ A c T, T = (listM (n ||| (2 ^ x ||| 2 ^ y)) 16).length ∧ e = .returned (.tuple #[.slice A T c, .int .i64 0]) ∧ IntS w' w'.heap.size A (natI (listM (n ||| (2 ^ x ||| 2 ^ y)) 16)) ∧ Below W.heap.size W w') ∧
        (∀ W B A c T, T = (listM (n ||| (2 ^ x ||| 2 ^ y)) 16).length → B ≤ W.heap.size → IntS W B A (natI (listM (n ||| (2 ^ x ||| 2 ^ y)) 16)) → Calls Try.prog 12 #[.slice A T c, .int .u64 (h.toNat : Int)] W fun e w' => ∃ A c, e = .returned (.tuple #[.slice A T c, .int .i64 0]) ∧ IntS w' w'.heap.size A (natI (sortL (kN h) (listM (n ||| (2 ^ x ||| 2 ^ y)) 16))) ∧ Below W.heap.size W w')) := hide fun n hn => by
      have hM := or_lt16 hn hp
      have hk : okM ((n ||| (2 ^ x ||| 2 ^ y) : Nat) : Int) = true := decide_eq_true (by omega)
      have hl : listV ((n ||| (2 ^ x ||| 2 ^ y) : Nat) : Int) = listM (n ||| (2 ^ x ||| 2 ^ y)) 16 := by rw [listV_ok hk, Int.toNat_natCast]
      have hr := listM_reps (n ||| (2 ^ x ||| 2 ^ y))
      have hlen := hr.len
      constructor
      · intro W
        refine (list_any W _ (by omega) (by omega)).mono fun e w' hp => ?_
        obtain ⟨A, c, T, hT, he, hc, hi, hb⟩ := hp.ints
        rw [hl] at hT hi
        rw [listE_yes hk] at he
        exact ⟨A, c, T, hT, he, hi, hb⟩
      · intro W B A c T hT hB hb
        subst hT
        have := orank_any W B A c (natI (listM (n ||| (2 ^ x ||| 2 ^ y)) 16)) h (by rw [natI_len]; omega) hB hb
        rw [natI_len] at this
        refine this.mono fun e w' hp => ?_
        obtain ⟨A', c', T', hT', he, hc', hi', hb'⟩ := hp.ints
        rw [(rankR_reps hr h).1] at hT' hi'
        rw [sort_len] at hT'
        subst hT'
        rw [(rankR_reps hr h).2] at he
        exact ⟨A', c', he, hi', hb'⟩
    have HFIND : Hid (∀ n, (sortL (kN h) (listM (n ||| (2 ^ x ||| 2 ^ y)) 16)).find? (fun c => c == x || c == y) = some (ahead (kN h) x y)) := hide fun n => one_find (K := kN h) (n := n) hx0 hy0 hxy
    have hor2 : ∀ n : Nat, n < 65536 → bits BinOp.or IntKind.i64 (n : Int) ((2 ^ x ||| 2 ^ y : Nat) : Int) = ((n ||| (2 ^ x ||| 2 ^ y) : Nat) : Int) := fun n hn => i64_or_nat n (2 ^ x ||| 2 ^ y) (Nat.lt_trans hn (by decide)) (Nat.lt_trans hp (by decide))
    obtain ⟨P, hP⟩ : ∃ P, P = (2 ^ x ||| 2 ^ y : Nat) := ⟨_, rfl⟩
    rw [← hP] at HALL HFIND hor1 hor2
    have hora := hor2 a ha0
    have horb := hor2 b hb0
    obtain ⟨K, hK⟩ : ∃ K, K = kN h := ⟨_, rfl⟩
    obtain ⟨N, hN⟩ : ∃ N, N = h.toNat := ⟨_, rfl⟩
    rw [← hK, ← hN] at HALL
    rw [← hK] at HFIND
    rw [← hN]
    obtain ⟨Z, hZ⟩ : ∃ Z, Z = ahead K x y := ⟨_, rfl⟩
    rw [← hZ] at HFIND
    have hxyi : ((x : Int) == (y : Int)) = false := by simp; omega
    have wx : IntKind.u64.wrap (x : Int) = (x : Int) := Go.IntWalk.u64_in _ (by omega)
    have wy : IntKind.u64.wrap (y : Int) = (y : Int) := Go.IntWalk.u64_in _ (by omega)
    clear hP hK hN hZ hpx hpy hp hor2
    go_enter Try.func7, Try.ntmps7
    go_wp2_with fail
    refine (KX.out _).mono ?_
    rintro e w' ⟨rfl, rfl⟩
    go_wp2_with fail
    refine (KY.out _).mono ?_
    rintro e w' ⟨rfl, rfl⟩
    clear KX KY
    go_wp2
    go_loopw [12, 13] (fun u v wr => ∃ i : Nat, i ≤ 2 ∧ v = .int .i64 (i : Int) ∧ Hid (OwnR wr w.heap.size 3 u ((repI i Z).map izV)) ∧ Hid (Below w.heap.size w wr)) (fun _ v _ => 2 - (intOf v).toNat)
    case atStart => exact ⟨0, by omega, rfl, hide (OwnR.nil _ _ _), hide (Below.refl _ _)⟩
    case round =>
      obtain ⟨i, hi, rfl, hown, hbel⟩ := hrel
      have hi3 : i = 0 ∨ i = 1 ∨ i = 2 := by omega
      rcases hi3 with rfl | rfl | rfl
      · have hdummy : True := trivial
        go_wp2_with fail
        refine (KA.out _).mono ?_
        rintro e w' ⟨rfl, rfl⟩
        obtain ⟨HL, HR⟩ := HALL.out a ha0
        have HF := hide (HFIND.out a)
        have hM16 := listM_len (a ||| P) 16
        obtain ⟨M, hM⟩ : ∃ M, M = listM (a ||| P) 16 := ⟨_, rfl⟩
        rw [← hM] at HL HR HF hM16
        have hSl := sort_len K M
        obtain ⟨S, hS⟩ : ∃ S, S = sortL K M := ⟨_, rfl⟩
        rw [← hS] at HR HF hSl
        have HL1 := hide (HL wr)
        have HR1 := hide HR
        have HSL := hide hSl
        clear HL HR hM hS hSl
        go_wp2_with fail
        refine HL1.out.mono ?_
        rintro e w1 ⟨A1, c1, T1, hT1, rfl, hi1, hb1⟩
        have HB1 := hide (hbel.out.trans (hb1.mono hbel.out.size))
        have HO1 : Hid (OwnR w1 w.heap.size 3 _ ((repI 0 Z).map izV)) := hide (hown.out.below hb1)
        have HR2 := hide (HR1.out w1 _ A1 c1 T1 hT1 (Nat.le_refl _) hi1)
        have HT1 := hide hT1
        have hT16 : T1 ≤ 16 := by omega
        clear hM16 hi1 hb1 hT1 HR1 HL1
        go_wp2_with fail
        refine HR2.out.mono ?_
        rintro e w2 ⟨A2, c2, rfl, hi2, hb2⟩
        have HB2 := hide (HB1.out.trans (hb2.mono HB1.out.size))
        have HO2 := hide (HO1.out.below hb2)
        obtain ⟨A0, c0, hu0, hc0⟩ := HO2.out.shape
        rw [List.length_map, repI_len] at hu0
        subst hu0
        have HI2 := hide hi2
        have HTS : Hid (T1 = S.length) := hide (by rw [HT1.out, HSL.out])
        clear hi2 hb2 HR2 HO1 HB1 HT1 HSL hc0 hown hbel
        go_wp2
        go_loopw [12, 19] (fun u v wr => ∃ k : Nat, k ≤ T1 ∧ v = .int .i64 (k : Int) ∧ ((u = .slice A0 0 c0 ∧ wr = w2 ∧ Hid (∀ j (hj : j < k) (hs : j < S.length), S[j] ≠ x ∧ S[j] ≠ y)) ∨ (Hid (OwnR wr w.heap.size 3 u ((repI (0 + 1) Z).map izV)) ∧ Hid (Below w.heap.size w wr)))) (fun _ v _ => T1 - (intOf v).toNat)
        case atStart => exact ⟨0, by omega, rfl, .inl ⟨rfl, rfl, hide (fun j hj => by omega)⟩⟩
        case round =>
          obtain ⟨k, hk, rfl, hst⟩ := hrel
          rcases hst with ⟨rfl, rfl, hno⟩ | ⟨hown, hbel⟩
          · by_cases hlt : k < T1
            · have hkS : k < S.length := by rw [← HTS.out]; exact hlt
              obtain ⟨bb, off, rfl, hbb, hcc⟩ := HI2.out (by rw [natI_len]; omega)
              have h1 := hcc k (by rw [natI_len]; exact hkS)
              rw [natI_at] at h1
              have hfind := fun hno hat => find_at HF.out hkS hno hat
              obtain ⟨q, hq⟩ : ∃ q, q = S[k] := ⟨_, rfl⟩
              rw [← hq] at h1 hfind
              have HQ := hide hq
              have hji : (k : Int) < (T1 : Int) := by omega
              clear hcc hq
              by_cases hat : q = x ∨ q = y
              · have hqz : q = Z := hfind (fun j hj => hno.out j hj _) hat
                have hL : Hid (IntS (wr.alloc (.cells #[.int .i64 (q : Int)] 3)) (wr.heap.size + 1) (some ⟨wr.heap.size, 0, none⟩) [(q : Int)]) := hide (IntS.lit wr [(q : Int)] #[.int .i64 (q : Int)] 3 (0, 0) rfl)
                have hO := hide (HO2.out.alloc (.cells #[.int .i64 (q : Int)] 3))
                have hZ : Hid (w.heap.size ≤ (wr.alloc (.cells #[.int .i64 (q : Int)] 3)).heap.size) := hide (by have := HB2.out.size; simp; omega)
                have HQZ := hide hqz
                have hbs := hide HB2.out.size
                have hqx : ((q : Int) == (x : Int)) = true ∨ ((q : Int) == (x : Int)) = false ∧ ((q : Int) == (y : Int)) = true := by
                  by_cases hx : q = x
                  · left; simp; omega
                  · right; simp; omega
                clear hat hqz hfind
                rcases hqx with hqx | ⟨hqx, hqy⟩
                all_goals
                  go_wp2_with (at_builtin; refine wpList_app_ints rfl (.tmp 92) (.tmp 97) rfl w.heap.size _ (repI 0 Z) [(q : Int)] (wr.heap.size + 1) 1 (some ⟨wr.heap.size, 0, none⟩) rfl rfl hO.out hL.out (fun e => by cases e) (by rw [repI_len]; simp) hZ.out ?_)
                  intro v5 w5 hown5 hgrow5 hat5
                  have HO5 : Hid (OwnR w5 w.heap.size 3 v5 ((repI (0 + 1) Z).map izV)) := hide (by rw [← repI_snoc, List.map_append, ← HQZ.out]; rw [← HQZ.out] at hown5; exact hown5)
                  have HB5 : Hid (Below w.heap.size w w5) := hide ((HB2.out.alloc hbs.out _).grown hgrow5 hZ.out (fun g hg => (HO2.out.at g hg).1))
                  clear hown5 hgrow5 hat5 hL hO hZ
                  go_wp2
                  go_roundw
                  case rel => exact ⟨k + 1, by omega, by go_num, .inr ⟨HO5, HB5⟩⟩
                  case measure => simp [intOf]; omega
              · have hqx : ((q : Int) == (x : Int)) = false := by simp; omega
                have hqy : ((q : Int) == (y : Int)) = false := by simp; omega
                have HNX := hide hat
                clear hat hfind
                go_wp2
                go_roundw
                case rel => exact ⟨k + 1, by omega, by go_num, .inl ⟨by trivial, by trivial, hide (fun j hj hs => by
                  rcases Nat.lt_or_ge j k with h | h
                  · exact hno.out j h hs
                  · obtain rfl : j = k := by omega
                    have := HNX.out
                    rw [HQ.out] at this
                    exact ⟨fun e => this (.inl e), fun e => this (.inr e)⟩)⟩⟩
                case measure => simp [intOf]; omega
            · exact absurd (find_some HF.out (fun j hj => hno.out j (by have := HTS.out; omega) hj)) id
          · obtain ⟨A5, c5, hu5, _⟩ := hown.out.shape
            rw [List.length_map, repI_len] at hu5
            subst hu5
            by_cases hlt : k < T1
            all_goals
              go_wp2
              go_roundw
              case rel => exact ⟨0 + 1, by omega, by go_num, hown, hbel⟩
              case measure => simp [intOf]
      · have hdummy : True := trivial
        go_wp2_with fail
        refine (KA.out _).mono ?_
        rintro e w' ⟨rfl, rfl⟩
        go_wp2_with fail
        refine (KB.out _).mono ?_
        rintro e w' ⟨rfl, rfl⟩
        obtain ⟨HL, HR⟩ := HALL.out b hb0
        have HF := hide (HFIND.out b)
        have hM16 := listM_len (b ||| P) 16
        obtain ⟨M, hM⟩ : ∃ M, M = listM (b ||| P) 16 := ⟨_, rfl⟩
        rw [← hM] at HL HR HF hM16
        have hSl := sort_len K M
        obtain ⟨S, hS⟩ : ∃ S, S = sortL K M := ⟨_, rfl⟩
        rw [← hS] at HR HF hSl
        have HL1 := hide (HL wr)
        have HR1 := hide HR
        have HSL := hide hSl
        clear HL HR hM hS hSl
        go_wp2_with fail
        refine HL1.out.mono ?_
        rintro e w1 ⟨A1, c1, T1, hT1, rfl, hi1, hb1⟩
        have HB1 := hide (hbel.out.trans (hb1.mono hbel.out.size))
        have HO1 : Hid (OwnR w1 w.heap.size 3 _ ((repI 1 Z).map izV)) := hide (hown.out.below hb1)
        have HR2 := hide (HR1.out w1 _ A1 c1 T1 hT1 (Nat.le_refl _) hi1)
        have HT1 := hide hT1
        have hT16 : T1 ≤ 16 := by omega
        clear hM16 hi1 hb1 hT1 HR1 HL1
        go_wp2_with fail
        refine HR2.out.mono ?_
        rintro e w2 ⟨A2, c2, rfl, hi2, hb2⟩
        have HB2 := hide (HB1.out.trans (hb2.mono HB1.out.size))
        have HO2 := hide (HO1.out.below hb2)
        obtain ⟨A0, c0, hu0, hc0⟩ := HO2.out.shape
        rw [List.length_map, repI_len] at hu0
        subst hu0
        have HI2 := hide hi2
        have HTS : Hid (T1 = S.length) := hide (by rw [HT1.out, HSL.out])
        clear hi2 hb2 HR2 HO1 HB1 HT1 HSL hc0 hown hbel
        go_wp2
        go_loopw [12, 19] (fun u v wr => ∃ k : Nat, k ≤ T1 ∧ v = .int .i64 (k : Int) ∧ ((u = .slice A0 1 c0 ∧ wr = w2 ∧ Hid (∀ j (hj : j < k) (hs : j < S.length), S[j] ≠ x ∧ S[j] ≠ y)) ∨ (Hid (OwnR wr w.heap.size 3 u ((repI (1 + 1) Z).map izV)) ∧ Hid (Below w.heap.size w wr)))) (fun _ v _ => T1 - (intOf v).toNat)
        case atStart => exact ⟨0, by omega, rfl, .inl ⟨rfl, rfl, hide (fun j hj => by omega)⟩⟩
        case round =>
          obtain ⟨k, hk, rfl, hst⟩ := hrel
          rcases hst with ⟨rfl, rfl, hno⟩ | ⟨hown, hbel⟩
          · by_cases hlt : k < T1
            · have hkS : k < S.length := by rw [← HTS.out]; exact hlt
              obtain ⟨bb, off, rfl, hbb, hcc⟩ := HI2.out (by rw [natI_len]; omega)
              have h1 := hcc k (by rw [natI_len]; exact hkS)
              rw [natI_at] at h1
              have hfind := fun hno hat => find_at HF.out hkS hno hat
              obtain ⟨q, hq⟩ : ∃ q, q = S[k] := ⟨_, rfl⟩
              rw [← hq] at h1 hfind
              have HQ := hide hq
              have hji : (k : Int) < (T1 : Int) := by omega
              clear hcc hq
              by_cases hat : q = x ∨ q = y
              · have hqz : q = Z := hfind (fun j hj => hno.out j hj _) hat
                have hL : Hid (IntS (wr.alloc (.cells #[.int .i64 (q : Int)] 3)) (wr.heap.size + 1) (some ⟨wr.heap.size, 0, none⟩) [(q : Int)]) := hide (IntS.lit wr [(q : Int)] #[.int .i64 (q : Int)] 3 (0, 0) rfl)
                have hO := hide (HO2.out.alloc (.cells #[.int .i64 (q : Int)] 3))
                have hZ : Hid (w.heap.size ≤ (wr.alloc (.cells #[.int .i64 (q : Int)] 3)).heap.size) := hide (by have := HB2.out.size; simp; omega)
                have HQZ := hide hqz
                have hbs := hide HB2.out.size
                have hqx : ((q : Int) == (x : Int)) = true ∨ ((q : Int) == (x : Int)) = false ∧ ((q : Int) == (y : Int)) = true := by
                  by_cases hx : q = x
                  · left; simp; omega
                  · right; simp; omega
                clear hat hqz hfind
                rcases hqx with hqx | ⟨hqx, hqy⟩
                all_goals
                  go_wp2_with (at_builtin; refine wpList_app_ints rfl (.tmp 92) (.tmp 97) rfl w.heap.size _ (repI 1 Z) [(q : Int)] (wr.heap.size + 1) 1 (some ⟨wr.heap.size, 0, none⟩) rfl rfl hO.out hL.out (fun e => by cases e) (by rw [repI_len]; simp) hZ.out ?_)
                  intro v5 w5 hown5 hgrow5 hat5
                  have HO5 : Hid (OwnR w5 w.heap.size 3 v5 ((repI (1 + 1) Z).map izV)) := hide (by rw [← repI_snoc, List.map_append, ← HQZ.out]; rw [← HQZ.out] at hown5; exact hown5)
                  have HB5 : Hid (Below w.heap.size w w5) := hide ((HB2.out.alloc hbs.out _).grown hgrow5 hZ.out (fun g hg => (HO2.out.at g hg).1))
                  clear hown5 hgrow5 hat5 hL hO hZ
                  go_wp2
                  go_roundw
                  case rel => exact ⟨k + 1, by omega, by go_num, .inr ⟨HO5, HB5⟩⟩
                  case measure => simp [intOf]; omega
              · have hqx : ((q : Int) == (x : Int)) = false := by simp; omega
                have hqy : ((q : Int) == (y : Int)) = false := by simp; omega
                have HNX := hide hat
                clear hat hfind
                go_wp2
                go_roundw
                case rel => exact ⟨k + 1, by omega, by go_num, .inl ⟨by trivial, by trivial, hide (fun j hj hs => by
                  rcases Nat.lt_or_ge j k with h | h
                  · exact hno.out j h hs
                  · obtain rfl : j = k := by omega
                    have := HNX.out
                    rw [HQ.out] at this
                    exact ⟨fun e => this (.inl e), fun e => this (.inr e)⟩)⟩⟩
                case measure => simp [intOf]; omega
            · exact absurd (find_some HF.out (fun j hj => hno.out j (by have := HTS.out; omega) hj)) id
          · obtain ⟨A5, c5, hu5, _⟩ := hown.out.shape
            rw [List.length_map, repI_len] at hu5
            subst hu5
            by_cases hlt : k < T1
            all_goals
              go_wp2
              go_roundw
              case rel => exact ⟨1 + 1, by omega, by go_num, hown, hbel⟩
              case measure => simp [intOf]
      · obtain ⟨A5, c5, hu5, hc5⟩ := hown.out.shape
        rw [List.length_map, repI_len] at hu5
        subst hu5
        obtain ⟨A6, c6, he6, _, hi6, _⟩ := hown.out.ints
        rw [repI_len] at he6
        injection he6 with h61 _ h62
        subst h61
        subst h62
        obtain ⟨b6, o6, rfl, hb6, hc6⟩ := hi6 (by rw [repI_len]; omega)
        have h60 : wr.cell? ⟨b6, o6, none⟩ = some (.int .i64 (Z : Int)) := hc6 0 (by rw [repI_len]; omega)
        have h61 : wr.cell? ⟨b6, o6 + 1, none⟩ = some (.int .i64 (Z : Int)) := hc6 1 (by rw [repI_len]; omega)
        clear hi6 hc6 hown hc5
        have HK := hide (fun W (hb : Below wr.heap.size wr W) => And.intro ((hb.cell (show (⟨b6, o6, none⟩ : Addr).block < wr.heap.size from hb6)).trans h60) ((hb.cell (show (⟨b6, o6 + 1, none⟩ : Addr).block < wr.heap.size from hb6)).trans h61))
        have hbs := hide hbel.out.size
        clear hb6
        go_wp2
        go_region_held3 (fun w' => w'.cell? ⟨b6, o6, none⟩ = some (.int .i64 (Z : Int)) ∧ w'.cell? ⟨b6, o6 + 1, none⟩ = some (.int .i64 (Z : Int)))
          (first | exact ⟨h60, h61⟩ | assumption)
          (first | (go_at_call 17; (with_reducible refine (known11_any _).mono ?_); rintro e w5 ⟨rfl, hb5⟩; have B5 := hide (below_undrew' hb5); have H56 := HK.out w5 B5.out))
        have HB5 := hide (hbel.out.trans (B5.out.mono hbs.out))
        clear H56 hb5
        go_wp2
        go_ret
        exact ⟨rfl, HB5.out⟩
end Go.Proofs.Ytlpihjbnfdfbaaa
