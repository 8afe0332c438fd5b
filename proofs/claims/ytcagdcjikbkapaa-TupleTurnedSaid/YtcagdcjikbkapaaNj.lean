/-
  The mathematics of a packet of TCP of which one bit is turned: it is told.
-/
import Derived.Test.YtcagdcjikbkapaaNb
import Derived.Test.YtcagdcjikbkapaaKk
import Derived.Test.YtcagdcjikbkapaaKu
namespace Go.Proofs.Ytcagdcjikbkapaa
open Go.RowKit
set_option linter.unusedVariables false
set_option maxRecDepth 100000

/-- two headers whose segments are told in the same way. -/
structure AliH (h h' : Ip) : Prop where
  v : h'.v = h.v
  p : h'.p = h.p
  s : h'.sb.take (adN h) = h.sb.take (adN h)
  d : h'.db.take (adN h) = h.db.take (adN h)
theorem AliH.sum {h h' : Ip} (a : AliH h h') (b : List UInt8) (k : Nat) : sumV h' b k = sumV h b k := by
  have e : adN h' = adN h := by unfold adN; rw [a.v]
  have ep : pseS { h' with nd := b.length } = pseS { h with nd := b.length } := by
    have e1 : adN { h' with nd := b.length } = adN h := e
    have e2 : adN { h with nd := b.length } = adN h := rfl
    unfold pseS
    rw [e1, e2]
    show addS (addS (addS 0 (h'.sb.take (adN h))) (h'.db.take (adN h))) [b8 (h'.p / 256), b8 h'.p, _, _] = _
    rw [a.s, a.d, a.p]
  unfold sumV
  rw [ep, a.p]
theorem tcp_zero {h : Ip} {D : List UInt8} (hp : h.p = 6) (h0 : segE h D = 0) : 20 ≤ D.length ∧ nmB D 16 2 = sumV h D 16 := by
  unfold segE tcpE at h0
  rw [if_pos hp] at h0
  split at h0
  · exact absurd h0 (by decide)
  · split at h0
    · exact absurd h0 (by decide)
    · split at h0
      · exact absurd h0 (by decide)
      · split at h0
        · exact absurd h0 (by decide)
        · next h1 _ _ h2 => exact ⟨by omega, by simpa using h2⟩
theorem p4S_zero {len q n3 n5 n8 hs : Nat} (h0 : p4S len q n3 n5 n8 hs = 0) : 20 ≤ 4 * q ∧ n3 = len ∧ 4 * q ≤ len ∧ n8 = hs := by
  unfold p4S at h0
  split at h0
  · exact absurd h0 (by decide)
  · split at h0
    · exact absurd h0 (by decide)
    · split at h0
      · exact absurd h0 (by decide)
      · split at h0
        · exact absurd h0 (by decide)
        · next h1 h2 h3 h4 => exact ⟨by omega, by omega, by omega, by simpa using h4⟩
theorem seen_zero {l : List UInt8} (h : seenE l = 0) : pkE l = 0 ∧ segE (pkH l) (pkD l) = 0 := by
  unfold seenE at h
  split at h
  · next h1 => exact absurd h h1
  · next h1 => exact ⟨by simpa using h1, h⟩
/-- a packet of TCP. -/
structure Pk4 (h : Ip) (L : List UInt8) : Prop where
  e : pktE h = 0
  v : h.v = false
  ls : h.sb.length = 16
  ld : h.db.length = 16
  no : h.no = 0
  id : h.id = 0
  df : h.df = false
  p : h.p = 6
  nd : L.length = h.nd
  n20 : 20 ≤ L.length
  seg : segE h L = 0
theorem Pk4.len {h : Ip} {L : List UInt8} (k : Pk4 h L) : (hd4 h []).length = 20 := by rw [len_hd4 h [] k.ls k.ld]; rfl
theorem Pk4.ad {h : Ip} {L : List UInt8} (k : Pk4 h L) : adN h = 4 := by unfold adN; rw [k.v]; rfl
theorem Pk4.parts {h : Ip} {L : List UInt8} (k : Pk4 h L) : ∃ T, hd4 h [] = 69 :: T ∧ T.length = 19 := by
  have h1 := k.len
  have h2 := hd4_parts h []
  rw [k.no] at h2
  have e : numBytes (64 + (20 + 0) / 4) 1 1 = [69] := by decide
  rw [e] at h2
  refine ⟨_, h2, ?_⟩
  rw [h2] at h1
  simpa using h1
theorem Pk4.src {h : Ip} {L : List UInt8} (k : Pk4 h L) (D : List UInt8) : ((hd4 h [] ++ D).drop 12).take 4 = h.sb.take 4 := by
  have hA := len_bA h
  unfold hd4 bR
  rw [List.append_assoc, List.drop_append, List.drop_of_length_le (by omega), List.nil_append, hA, List.append_assoc, List.drop_append, List.drop_of_length_le (by rw [length_numBytes]; omega), List.nil_append, length_numBytes]
  simp [k.ls]
theorem Pk4.dst {h : Ip} {L : List UInt8} (k : Pk4 h L) (D : List UInt8) : ((hd4 h [] ++ D).drop 16).take 4 = h.db.take 4 := by
  have hA := len_bA h
  unfold hd4 bR
  rw [List.append_assoc, List.drop_append, List.drop_of_length_le (by omega), List.nil_append, hA, List.append_assoc, List.drop_append, List.drop_of_length_le (by rw [length_numBytes]; omega), List.nil_append, length_numBytes, List.append_assoc, List.drop_append, List.drop_of_length_le (by simp [k.ls]), List.nil_append]
  simp [k.ls, k.ld]
theorem Pk4.ali {h : Ip} {L l D : List UInt8} (k : Pk4 h L) (h4 : (l.getD 0 0).toNat / 16 = 4) (h12 : l.drop 1 = (hd4 h [] ++ D).drop 1) : AliH h (pkH l) := by
  have eH : pkH l = p4H l none 0 none 0 := by unfold pkH; rw [if_pos h4]
  have hd : ∀ j, 1 ≤ j → l.drop j = (hd4 h [] ++ D).drop j := fun j hj => by
    have e1 : l.drop j = (l.drop 1).drop (j - 1) := by rw [List.drop_drop]; congr 1; omega
    have e2 : (hd4 h [] ++ D).drop j = ((hd4 h [] ++ D).drop 1).drop (j - 1) := by rw [List.drop_drop]; congr 1; omega
    rw [e1, e2, h12]
  have F := four_of (O := []) (l := hd4 h [] ++ D) k.e k.v (List.take_append_of_le_length (by rw [k.len]; omega))
  have hp9 : nmB l 9 1 = h.p.toNat := by unfold nmB; rw [hd 9 (by omega)]; exact F.p
  refine ⟨by rw [eH, k.v]; rfl, ?_, ?_, ?_⟩
  · rw [eH]; show (nmB l 9 1 : Int) = _; rw [hp9, k.p]; rfl
  · rw [k.ad, eH]
    show (pad16 ((l.drop 12).take 4)).take 4 = _
    rw [hd 12 (by omega), k.src D]
    unfold pad16
    rw [List.take_append_of_le_length (by simp [k.ls]), List.take_take]; rfl
  · rw [k.ad, eH]
    show (pad16 ((l.drop 16).take 4)).take 4 = _
    rw [hd 16 (by omega), k.dst D]
    unfold pad16
    rw [List.take_append_of_le_length (by simp [k.ld]), List.take_take]; rfl
/-- a bit of the segment. -/
theorem turned_seg {h : Ip} {L : List UInt8} (k : Pk4 h L) {q : Nat} (hq : q < 8 * L.length) : seenE (hd4 h [] ++ turnL L q) ≠ 0 := by
  intro h0
  have hlen := length_turnL L q
  have hne : hd4 h [] ++ turnL L q ≠ [] := by
    intro e; have := congrArg List.length e; rw [List.length_append, k.len] at this; simp at this
  have hT : ∀ n, n ≤ 20 → (hd4 h [] ++ turnL L q).take n = (hd4 h []).take n := fun n hn => List.take_append_of_le_length (by rw [k.len]; exact hn)
  have h4 := first4 (O := []) k.e k.v (hT 1 (by omega)) hne
  have F := four_of (O := []) k.e k.v (hT 12 (by omega))
  obtain ⟨l, hl⟩ : ∃ l, l = hd4 h [] ++ turnL L q := ⟨_, rfl⟩
  rw [← hl] at h0 h4 F
  obtain ⟨-, h2⟩ := seen_zero h0
  have eq5 : nmB l 0 1 % 16 = 5 := by rw [F.a, k.no]
  have eD : pkD l = turnL L q := by
    unfold pkD
    rw [if_pos h4, eq5, hl, List.drop_append, k.len]
    simp [List.drop_of_length_le, k.len]
  have A := k.ali (D := turnL L q) h4 (by rw [hl])
  rw [eD] at h2
  have h3 := (tcp_zero (by rw [A.p, k.p]) h2).2
  rw [A.sum] at h3
  have h5 := (tcp_zero k.p k.seg).2
  rcases told_turn h L 16 q k.ls k.ld (by decide) (by have := k.n20; omega) (.inl k.p) hq with ⟨a, b⟩ | ⟨a, b⟩
  · rw [a, h5] at h3; exact b h3.symm
  · rw [b, ← h5] at h3; exact a h3
/-- a bit of the head behind its first byte. -/
theorem turned_head {h : Ip} {L : List UInt8} (k : Pk4 h L) {q : Nat} (h8 : 8 ≤ q) (hq : q < 160) : seenE (turnL (hd4 h []) q ++ L) ≠ 0 := by
  intro h0
  obtain ⟨T, hT, hTl⟩ := k.parts
  have hl1 := length_turnL (hd4 h []) q
  rw [k.len] at hl1
  have e69 : turnL (hd4 h []) q = 69 :: turnL T (q - 8) := by
    have := turn_right [69] T (q := q) (by simpa using h8)
    rw [hT]; simpa using this
  obtain ⟨l, hl⟩ : ∃ l, l = turnL (hd4 h []) q ++ L := ⟨_, rfl⟩
  rw [← hl] at h0
  have hne : l ≠ [] := by rw [hl, e69]; simp
  have hf : (l.getD 0 0).toNat = 69 := by rw [hl, e69]; rfl
  have hn1 : nmB l 0 1 = 69 := by rw [← nm_first hne, hf]
  obtain ⟨h1, -⟩ := seen_zero h0
  rw [pkE4 hne (by rw [hf])] at h1
  unfold p4E at h1
  rw [if_neg (by rw [hl, List.length_append, hl1]; omega), hn1] at h1
  obtain ⟨-, -, -, h2⟩ := p4S_zero h1
  have et : l.take (4 * (69 % 16)) = turnL (hd4 h []) q := by
    rw [hl, List.take_append_of_le_length (by rw [hl1]; decide), List.take_of_length_le (by rw [hl1]; decide)]
  rw [et] at h2
  -- the head's parts
  have hA := len_bA h
  have hN := length_numBytes (smH h []) 2 2
  have hsm : numS (numBytes (smH h []) 2 2) = smH h [] := by
    have := nmB_split [] (numBytes (smH h []) 2 2) [] hN
    rw [List.nil_append, List.append_nil] at this
    rw [← this]
    have h3 := nm_here (N := smH h []) (m := 2) [] (smH_lt h [])
    rw [List.append_nil] at h3
    exact h3
  have hS : smH h [] = inetS (bA h ++ bR h []) := by
    unfold smH inetS
    rw [addS_append _ _ _ (by rw [hA])]
  have hHS : ∀ A nb R : List UInt8, A.length = 10 → nb.length = 2 → headS (A ++ (nb ++ R)) = inetS (A ++ R) := fun A nb R ha hn => by
    rw [headS_parts A nb R ha hn]
    unfold inetS
    rw [addS_append _ _ _ (by rw [ha])]
  have hNM : ∀ A nb R : List UInt8, A.length = 10 → nb.length = 2 → nmB ((A ++ (nb ++ R)) ++ L) 10 2 = numS nb := fun A nb R ha hn => by
    have := nmB_split A nb (R ++ L) hn
    rw [ha] at this
    rw [← this]; simp
  rw [hl] at h2
  unfold hd4 at h2
  by_cases c1 : q < 80
  · rw [turn_left _ _ (by rw [hA]; exact c1), hHS _ _ _ (by rw [length_turnL, hA]) hN, hNM _ _ _ (by rw [length_turnL, hA]) hN, hsm, hS] at h2
    have := inet_turn (l := bA h ++ bR h []) (q := q) (by rw [List.length_append, hA]; omega)
    rw [turn_left _ _ (by rw [hA]; exact c1)] at this
    exact this h2.symm
  · rw [turn_right _ _ (by rw [hA]; omega), hA] at h2
    by_cases c2 : q < 96
    · rw [turn_left _ _ (by rw [hN]; omega), hHS _ _ _ hA (by rw [length_turnL, hN]), hNM _ _ _ hA (by rw [length_turnL, hN]), ← hS] at h2
      exact turn_eq (l := numBytes (smH h []) 2 2) (q := q - 8 * 10) (by rw [hN]; omega) (numS_two_inj (by rw [length_turnL, hN]) hN (by rw [h2, hsm]))
    · have hRl := len_bR h [] k.ls k.ld
      rw [List.length_nil] at hRl
      rw [turn_right _ _ (by rw [hN]; omega), hN, hHS _ _ _ hA hN, hNM _ _ _ hA hN, hsm, hS] at h2
      have := inet_turn (l := bA h ++ bR h []) (q := q - 16) (by rw [List.length_append, hA, hRl]; omega)
      rw [turn_right _ _ (by rw [hA]; omega), hA, show q - 16 - 8 * 10 = q - 8 * 10 - 8 * 2 by omega] at this
      exact this h2.symm
/-- what a segment's right sum says. -/
def conC (h : Ip) : Nat := plainS (h.sb.take (adN h)) + plainS (h.db.take (adN h)) + plainS [b8 (h.p / 256), b8 h.p]
theorem plain_b8 {n : Nat} (hn : n < 65536) : plainS [b8 ((n : Int) / 256), b8 (n : Int)] = n := by
  obtain ⟨e1, e2⟩ := b8_nat n
  rw [e1, e2]
  simp only [plainS]
  rw [UInt8.toNat_ofNat', UInt8.toNat_ofNat']
  omega
theorem seg_mod {h : Ip} {b : List UInt8} (ls : h.sb.length = 16) (ld : h.db.length = 16) (hp : h.p = 6) (hl : 18 ≤ b.length) (hn : b.length < 65536) (h0 : nmB b 16 2 = sumV h b 16) : (conC h + b.length + plainS b) % 65535 = 0 := by
  obtain ⟨a, m, d, hb2, ha, hm⟩ : ∃ a m d, b = a ++ (m ++ d) ∧ a.length = 16 ∧ m.length = 2 := ⟨b.take 16, (b.drop 16).take 2, (b.drop 16).drop 2, by rw [List.take_append_drop, List.take_append_drop], by rw [List.length_take]; omega, by rw [List.length_take, List.length_drop]; omega⟩
  have hN : nmB b 16 2 = plainS m := by
    rw [hb2, ← ha, nmB_split a m d hm]
    match m, hm with
    | [x, y], _ => simp [numS, plainS]
  have et : b.take 16 = a := by rw [hb2, ← ha, List.take_left]
  have ed : b.drop 18 = d := by
    rw [hb2, show 18 = (a ++ m).length by rw [List.length_append, ha, hm], ← List.append_assoc, List.drop_left]
  have hpl : plainS b = plainS a + (plainS m + plainS d) := by
    rw [hb2, plainS_append _ _ (by rw [ha]), plainS_append _ _ (by rw [hm])]
  have hae := adN_even h
  have hle : pseS { h with nd := b.length } ≤ 65535 := pseS_le _
  have hps : pseS { h with nd := b.length } % 65535 = (conC h + b.length) % 65535 := by
    have e2 : adN { h with nd := b.length } = adN h := rfl
    unfold pseS
    rw [e2]
    show addS (addS (addS 0 (h.sb.take (adN h))) (h.db.take (adN h))) ([b8 (h.p / 256), b8 h.p] ++ [b8 ((b.length : Int) / 256), b8 (b.length : Int)]) % 65535 = _
    have m1 := addS_mod (addS (addS 0 (h.sb.take (adN h))) (h.db.take (adN h))) ([b8 (h.p / 256), b8 h.p] ++ [b8 ((b.length : Int) / 256), b8 (b.length : Int)])
    have m2 := addS_mod (addS 0 (h.sb.take (adN h))) (h.db.take (adN h))
    have m3 := addS_mod 0 (h.sb.take (adN h))
    rw [plainS_append _ _ (by simp), plain_b8 hn] at m1
    unfold conC
    omega
  unfold sumV at h0
  rw [if_neg (by rw [hp]; simp), et, ed, hN] at h0
  have m1 := addS_mod (addS (pseS { h with nd := b.length }) a) d
  have m2 := addS_mod (pseS { h with nd := b.length }) a
  have l1 := addS_le (pseS { h with nd := b.length }) a hle
  have l2 := addS_le _ d l1
  omega
/-- the first byte, where the head seems to be longer. -/
theorem turned_long {h : Ip} {L : List UInt8} (k : Pk4 h L) (hmax : L.length < 65516) {d : Nat} (hd : d = 2 ∨ d = 8) {x : UInt8} {T : List UInt8} (hT : hd4 h [] = 69 :: T) (hx : x.toNat = 69 + d) : seenE (x :: (T ++ L)) ≠ 0 := by
  intro h0
  have hTl : T.length = 19 := by have := k.len; rw [hT] at this; simpa using this
  obtain ⟨l, hl⟩ : ∃ l, l = x :: (T ++ L) := ⟨_, rfl⟩
  rw [← hl] at h0
  have hne : l ≠ [] := by rw [hl]; simp
  have hf : (l.getD 0 0).toNat = 69 + d := by rw [hl]; exact hx
  have h4 : (l.getD 0 0).toNat / 16 = 4 := by rw [hf]; omega
  have hn1 : nmB l 0 1 % 16 = 5 + d := by rw [← nm_first hne, hf]; omega
  obtain ⟨h1, h2⟩ := seen_zero h0
  have hll : l.length = 20 + L.length := by rw [hl, List.length_cons, List.length_append, hTl]; omega
  rw [pkE4 hne h4] at h1
  unfold p4E at h1
  rw [if_neg (by omega), hn1] at h1
  obtain ⟨-, -, hq, hs⟩ := p4S_zero h1
  have hA := len_bA h
  have hN := length_numBytes (smH h []) 2 2
  have hRl := len_bR h [] k.ls k.ld
  rw [List.length_nil] at hRl
  -- the head's parts
  obtain ⟨y, A1, hbA, hA1⟩ : ∃ y A1, bA h = 69 :: y :: A1 ∧ A1.length = 8 := by
    have e : hd4 h [] = bA h ++ (numBytes (smH h []) 2 2 ++ bR h []) := rfl
    match hb : bA h, hA with
    | a :: b :: t, hA =>
      rw [hT, hb] at e
      injection e with e1 _
      exact ⟨b, t, by rw [e1], by simpa using hA⟩
  have hTe : T = (y :: A1) ++ (numBytes (smH h []) 2 2 ++ bR h []) := by
    have e : hd4 h [] = bA h ++ (numBytes (smH h []) 2 2 ++ bR h []) := rfl
    rw [hT, hbA] at e
    injection e
  have hsm : numS (numBytes (smH h []) 2 2) = smH h [] := by
    have := nmB_split [] (numBytes (smH h []) 2 2) [] hN
    rw [List.nil_append, List.append_nil] at this
    rw [← this]
    have h3 := nm_here (N := smH h []) (m := 2) [] (smH_lt h [])
    rw [List.append_nil] at h3
    exact h3
  have hn8 : nmB l 10 2 = smH h [] := by
    have e : l = (x :: y :: A1) ++ (numBytes (smH h []) 2 2 ++ (bR h [] ++ L)) := by rw [hl, hTe]; simp
    have := nmB_split (x :: y :: A1) (numBytes (smH h []) 2 2) (bR h [] ++ L) hN
    rw [show (x :: y :: A1).length = 10 by simp [hA1]] at this
    rw [e, this, hsm]
  have htk : l.take (4 * (5 + d)) = (x :: y :: A1) ++ (numBytes (smH h []) 2 2 ++ (bR h [] ++ L.take (4 * d))) := by
    have e : l = (x :: T) ++ L := by rw [hl]; rfl
    rw [e, List.take_append, List.take_of_length_le (by simp [hTl]; omega), show 4 * (5 + d) - (x :: T).length = 4 * d by simp [hTl]; omega, hTe]
    simp
  rw [hn8, htk, headS_parts _ _ _ (by simp [hA1]) hN] at hs
  have hsmv : smH h [] = 65535 - addS (addS 0 (69 :: y :: A1)) (bR h []) := by unfold smH; rw [hbA]
  rw [hsmv] at hs
  have a1 := addS_mod 0 (69 :: y :: A1)
  have a2 := addS_mod (addS 0 (69 :: y :: A1)) (bR h [])
  have a3 := addS_mod 0 (x :: y :: A1)
  have a4 := addS_mod (addS 0 (x :: y :: A1)) (bR h [] ++ L.take (4 * d))
  rw [plainS_append _ _ (by rw [hRl])] at a4
  have b1 := addS_le (addS 0 (69 :: y :: A1)) (bR h []) (addS_le _ _ (by omega))
  have b2 := addS_le (addS 0 (x :: y :: A1)) (bR h [] ++ L.take (4 * d)) (addS_le _ _ (by omega))
  have c1 : plainS (69 :: y :: A1) = 69 * 256 + y.toNat + plainS A1 := rfl
  have c2 : plainS (x :: y :: A1) = x.toNat * 256 + y.toNat + plainS A1 := rfl
  rw [hx] at c2
  -- the segment
  have eD : pkD l = L.drop (4 * d) := by
    unfold pkD
    rw [if_pos h4, hn1]
    have e : l = (x :: T) ++ L := by rw [hl]; rfl
    rw [e, List.drop_append, List.drop_of_length_le (by simp [hTl]; omega), List.nil_append, show 4 * (5 + d) - (x :: T).length = 4 * d by simp [hTl]; omega]
  have A := k.ali (D := L) h4 (by rw [hl, hT]; rfl)
  rw [eD] at h2
  obtain ⟨n1, n2⟩ := tcp_zero (by rw [A.p, k.p]) h2
  rw [A.sum] at n2
  obtain ⟨n3, n4⟩ := tcp_zero k.p k.seg
  rw [List.length_drop] at n1
  have s1 := seg_mod k.ls k.ld k.p (by omega) (by omega) n4
  have s2 := seg_mod k.ls k.ld k.p (by rw [List.length_drop]; omega) (by rw [List.length_drop]; omega) n2
  rw [List.length_drop] at s2
  have hpl : plainS L = plainS (L.take (4 * d)) + plainS (L.drop (4 * d)) := by
    rw [← plainS_append _ _ (by rw [List.length_take]; omega), List.take_append_drop]
  rcases hd with rfl | rfl
  · omega
  · omega
/-- the first byte. -/
theorem turned_first {h : Ip} {L : List UInt8} (k : Pk4 h L) (hmax : L.length < 65516) {q : Nat} (hq : q < 8) : seenE (turnL (hd4 h []) q ++ L) ≠ 0 := by
  obtain ⟨T, hT, hTl⟩ := k.parts
  have e1 : turnL (hd4 h []) q ++ L = turnU 69 q :: (T ++ L) := by
    have := turn_left [69] T (q := q) (by simpa using hq)
    have e2 : turnL [(69 : UInt8)] q = [turnU 69 q] := by
      unfold turnL
      rw [show q / 8 = 0 by omega, show q % 8 = q by omega]; rfl
    rw [hT, show (69 : UInt8) :: T = [69] ++ T from rfl, this, e2]; rfl
  rw [e1]
  have hbad : ∀ x : UInt8, x.toNat / 16 ≠ 4 → x.toNat / 16 ≠ 6 → seenE (x :: (T ++ L)) ≠ 0 := fun x n4 n6 h0 => by
    have h1 := (seen_zero h0).1
    unfold pkE at h1
    rw [if_neg (by simp), if_neg (by exact n4), if_neg (by exact n6)] at h1
    exact absurd h1 (by decide)
  have hshort : ∀ x : UInt8, x.toNat / 16 = 4 → x.toNat % 16 < 5 → seenE (x :: (T ++ L)) ≠ 0 := fun x n4 n5 h0 => by
    have h1 := (seen_zero h0).1
    have hne : x :: (T ++ L) ≠ [] := by simp
    rw [pkE4 hne n4] at h1
    unfold p4E at h1
    have hf : nmB (x :: (T ++ L)) 0 1 = x.toNat := by rw [← nm_first hne]; rfl
    rw [if_neg (by rw [List.length_cons, List.length_append, hTl]; omega), hf] at h1
    have := (p4S_zero h1).1
    omega
  have hq8 : q = 0 ∨ q = 1 ∨ q = 2 ∨ q = 3 ∨ q = 4 ∨ q = 5 ∨ q = 6 ∨ q = 7 := by omega
  rcases hq8 with rfl | rfl | rfl | rfl | rfl | rfl | rfl | rfl
  · exact hshort _ (by decide) (by decide)
  · exact turned_long k hmax (d := 2) (.inl rfl) hT (by decide)
  · exact hshort _ (by decide) (by decide)
  · exact turned_long k hmax (d := 8) (.inr rfl) hT (by decide)
  · exact hbad _ (by decide) (by decide)
  · -- it seems to be a packet of six
    intro h0
    obtain ⟨l, hl⟩ : ∃ l, l = turnU 69 5 :: (T ++ L) := ⟨_, rfl⟩
    rw [← hl] at h0
    have hne : l ≠ [] := by rw [hl]; simp
    have h6 : (l.getD 0 0).toNat / 16 = 6 := by rw [hl]; show (turnU 69 5).toNat / 16 = 6; decide
    obtain ⟨h1, h2⟩ := seen_zero h0
    rw [pkE6 hne h6] at h1
    have hll : l.length = 20 + L.length := by rw [hl, List.length_cons, List.length_append, hTl]; omega
    have F := four_of (O := []) (l := hd4 h [] ++ L) k.e k.v (List.take_append_of_le_length (by rw [k.len]; omega))
    have hdr : ∀ j, 1 ≤ j → l.drop j = (hd4 h [] ++ L).drop j := fun j hj => by
      obtain ⟨i, rfl⟩ : ∃ i, j = i + 1 := ⟨j - 1, by omega⟩
      rw [hl, hT]; rfl
    have n4 : nmB l 4 2 = 0 := by unfold nmB; rw [hdr 4 (by omega)]; have := F.id; rw [k.id] at this; exact this
    have n6 : nmB l 6 1 = 0 := by
      have e := hd4_parts h []
      rw [k.df] at e
      have : nmB (hd4 h [] ++ L) 6 1 = 0 := by
        rw [e]
        simp only [List.append_assoc]
        rw [nm_skip 5 (by simp [length_numBytes]), nm_skip 4 (by simp [length_numBytes]), nm_skip 2 (by simp [length_numBytes]), nm_skip 0 (by simp [length_numBytes])]
        simp [nmB, numBytes, List.range_succ, numS]
      unfold nmB; rw [hdr 6 (by omega)]; exact this
    have eH : pkH l = p6H l none 0 := by unfold pkH; rw [if_neg (by omega)]
    have hp0 : (pkH l).p = 0 := by rw [eH]; show (nmB l 6 1 : Int) = 0; rw [n6]; rfl
    unfold segE at h2
    rw [hp0, if_neg (by decide), if_neg (by decide)] at h2
    exact absurd h2 (by decide)
  · exact hbad _ (by decide) (by decide)
  · exact hbad _ (by decide) (by decide)
/-- one bit, wherever. -/
theorem turned_all {h : Ip} {L : List UInt8} (k : Pk4 h L) (hmax : L.length < 65516) {q : Nat} (hq : q < 8 * (20 + L.length)) : seenE (turnL (hd4 h [] ++ L) q) ≠ 0 := by
  have hlen := k.len
  by_cases c1 : q < 160
  · rw [turn_left _ _ (by rw [hlen]; exact c1)]
    by_cases c2 : q < 8
    · exact turned_first k hmax c2
    · exact turned_head k (by omega) c1
  · rw [turn_right _ _ (by rw [hlen]; omega), hlen]
    exact turned_seg k (by omega)
end Go.Proofs.Ytcagdcjikbkapaa
