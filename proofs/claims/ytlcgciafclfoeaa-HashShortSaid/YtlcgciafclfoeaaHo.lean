/-
  The walk of the statement HashShort; the four statements at numbers that are given as such.
-/
import Derived.Test.YtlcgciafclfoeaaHl
namespace Go.Proofs.Ytlcgciafclfoeaa
open Go.RowKit
set_option linter.unusedVariables false

set_option maxHeartbeats 1000000 in
theorem hashShort_any (k0 k1 : BitVec 64) (A : Option Addr) (c : Nat) (l : List UInt8) (w : World) (hl : l.length ≤ c) (hcm : c ≤ 9223372036854775807) (hc : l.length ≤ 140737488355320) (hb : Byt w w.heap.size A l) (hnil : A = none → c = 0) :
    Calls Try.prog 7 #[.int .u64 (k0.toNat : Int), .int .u64 (k1.toNat : Int), .slice A l.length c] w fun e w' => e = .returned (.bool true) ∧ Below w.heap.size w w' := by
  obtain ⟨r, hr⟩ : ∃ r, r = l.take 7 := ⟨_, rfl⟩
  have hrl : r.length ≤ 7 := by rw [hr, List.length_take]; omega
  have hrc : r.length ≤ c := by rw [hr, List.length_take]; omega
  have hby : Byt w w.heap.size A r := by rw [hr]; exact hb.take 7
  have HBY := hide hby
  by_cases h7 : 7 < l.length
  · have e7 : r.length = 7 := by rw [hr, List.length_take]; omega
    have E7 := hide e7
    have hlb : (7 : Int) < (l.length : Int) := by omega
    generalize l.length = n at hl hc hlb ⊢
    clear hb hby hr e7 h7
    have h7n : 7 ≤ n := by omega
    go_enter Try.func7, Try.ntmps7
    have HC := hide (sip_any k0 k1 A c r w.heap.size w hrc hcm (by omega) HBY.out (Nat.le_refl _))
    have HR := hide (fun (w1 : World) (h : Below w.heap.size w w1) => refsip_any k0 k1 A c r w.heap.size w1 (by omega) (HBY.out.below h) h.size)
    rw [E7.out] at HC HR
    go_wp2_with fail
    refine HC.out.mono ?_
    rintro e w1 ⟨rfl, hb1⟩
    unfold uV
    have HB1 := hide hb1
    clear hb1 HC
    go_wp2_with fail
    refine (HR.out w1 HB1.out).mono ?_
    rintro e w2 ⟨rfl, hb2⟩
    unfold uV
    have HB2 := hide (HB1.out.trans (hb2.mono HB1.out.size))
    have HY2 : Hid (Byt w2 w.heap.size A r) := hide (HBY.out.below HB2.out)
    have HR7 : Hid (r.length ≤ 7) := hide hrl
    have HE : Hid (Value.slice A 7 c = .slice A r.length c) := hide (by rw [E7.out])
    clear hb2 HB1 HR hrl
    go_wp2_with (at_builtin; rw [HE.out]; refine wpList_app_bytes rfl (.tmp 24) (.tmp 25) rfl w.heap.size (.slice none 0 0) [] r w.heap.size c A rfl rfl (OwnB.nil _ _) HY2.out hnil (by have := HR7.out; simp; omega) HB2.out.size ?_)
    intro v3 w3 hown3 hgrow3 hat3
    have HB3 : Hid (Below w.heap.size w w3) := hide (HB2.out.grown hgrow3 HB2.out.size (fun g hg => by simp [Value.ownBlock] at hg))
    have HO3 := hide hown3
    clear hown3 hgrow3 hat3
    have hO : Hid (OwnB (w3.alloc (.cells #[.int .u8 0] 5)) w.heap.size v3 r) := hide (HO3.out.alloc _)
    have hL : Hid (Byt (w3.alloc (.cells #[.int .u8 0] 5)) (w3.heap.size + 1) (some ⟨w3.heap.size, 0, none⟩) [0]) := hide (Byt.lit w3 [0] #[.int .u8 0] 5 (0, 0) rfl)
    have hZ : Hid (w.heap.size ≤ (w3.alloc (.cells #[.int .u8 0] 5)).heap.size) := hide (by have := HB3.out.size; simp; omega)
    go_wp2_with (at_builtin; refine wpList_app_bytes rfl (.tmp 27) (.tmp 28) rfl w.heap.size v3 r [0] (w3.heap.size + 1) 1 (some ⟨w3.heap.size, 0, none⟩) rfl rfl hO.out hL.out (fun e => by cases e) (by have := HR7.out; simp; omega) hZ.out ?_)
    intro v5 w5 hown5 hgrow5 hat5
    have HB5 : Hid (Below w.heap.size w w5) := hide ((HB3.out.alloc (by have := HB3.out.size; omega) _).grown hgrow5 hZ.out (fun g hg => (World.ownsRow.lt HO3.out g hg).1))
    have HO5 := hide hown5
    clear hown5 hgrow5 hat5 hO hL hZ HO3
    obtain ⟨A5, c5, rfl, hlc5, hby5, hnil5, -⟩ := HO5.out.shape
    have hcb5 : c5 ≤ 9223372036854775807 := by
      rcases HO5.out.2 with ⟨e, _⟩ | ⟨g, cap, cur, e, _, _, hcm, hm, _⟩
      · rw [Value.slice.injEq] at e; have := e.2.1; simp at this
      · cases e; unfold maxLen at hm; omega
    have hl5 : (r ++ [0]).length ≤ 8 := by have := HR7.out; simp; omega
    have HC := hide (sip_any k0 k1 A5 c5 (r ++ [0]) w5.heap.size w5 hlc5 hcb5 (by omega) hby5 (Nat.le_refl _))
    have HR := hide (fun (w1 : World) (h : Below w5.heap.size w5 w1) => refsip_any k0 k1 A5 c5 (r ++ [0]) w5.heap.size w1 (by omega) (hby5.below h) h.size)
    generalize (r ++ [0]).length = n5 at HC HR ⊢
    clear hlc5 hby5 hnil5 hcb5 hl5 HO5
    go_wp2_with fail
    refine HC.out.mono ?_
    rintro e w6 ⟨rfl, hb6⟩
    unfold uV
    have HB6 := hide hb6
    clear hb6 HC
    go_wp2_with fail
    refine (HR.out w6 HB6.out).mono ?_
    rintro e w7 ⟨rfl, hb7⟩
    unfold uV
    have HB7 := hide (HB6.out.trans (hb7.mono HB6.out.size))
    clear hb7 HR
    go_wp2_with fail
    refine (knownH_any w7).mono ?_
    rintro e w8 ⟨rfl, hb8⟩
    have HB8 := hide (HB7.out.trans (hb8.mono HB7.out.size))
    clear hb8
    go_wp2
    go_ret
    exact ⟨rfl, HB5.out.trans (HB8.out.mono HB5.out.size)⟩
  · have er : r = l := by rw [hr]; exact List.take_of_length_le (by omega)
    clear hr
    subst er
    obtain ⟨n, hn⟩ : ∃ n, n = r.length := ⟨_, rfl⟩
    have E7 : Hid (r.length = n) := hide hn.symm
    have hlb : ¬ (7 : Int) < (n : Int) := by omega
    rw [← hn] at hl hc ⊢
    clear hb hby h7 hn
    go_enter Try.func7, Try.ntmps7
    have HC := hide (sip_any k0 k1 A c r w.heap.size w hrc hcm (by omega) HBY.out (Nat.le_refl _))
    have HR := hide (fun (w1 : World) (h : Below w.heap.size w w1) => refsip_any k0 k1 A c r w.heap.size w1 (by omega) (HBY.out.below h) h.size)
    rw [E7.out] at HC HR
    go_wp2_with fail
    refine HC.out.mono ?_
    rintro e w1 ⟨rfl, hb1⟩
    unfold uV
    have HB1 := hide hb1
    clear hb1 HC
    go_wp2_with fail
    refine (HR.out w1 HB1.out).mono ?_
    rintro e w2 ⟨rfl, hb2⟩
    unfold uV
    have HB2 := hide (HB1.out.trans (hb2.mono HB1.out.size))
    have HY2 : Hid (Byt w2 w.heap.size A r) := hide (HBY.out.below HB2.out)
    have HR7 : Hid (r.length ≤ 7) := hide hrl
    have HE : Hid (Value.slice A n c = .slice A r.length c) := hide (by rw [E7.out])
    clear hb2 HB1 HR hrl
    go_wp2_with (at_builtin; rw [HE.out]; refine wpList_app_bytes rfl (.tmp 24) (.tmp 25) rfl w.heap.size (.slice none 0 0) [] r w.heap.size c A rfl rfl (OwnB.nil _ _) HY2.out hnil (by have := HR7.out; simp; omega) HB2.out.size ?_)
    intro v3 w3 hown3 hgrow3 hat3
    have HB3 : Hid (Below w.heap.size w w3) := hide (HB2.out.grown hgrow3 HB2.out.size (fun g hg => by simp [Value.ownBlock] at hg))
    have HO3 := hide hown3
    clear hown3 hgrow3 hat3
    have hO : Hid (OwnB (w3.alloc (.cells #[.int .u8 0] 5)) w.heap.size v3 r) := hide (HO3.out.alloc _)
    have hL : Hid (Byt (w3.alloc (.cells #[.int .u8 0] 5)) (w3.heap.size + 1) (some ⟨w3.heap.size, 0, none⟩) [0]) := hide (Byt.lit w3 [0] #[.int .u8 0] 5 (0, 0) rfl)
    have hZ : Hid (w.heap.size ≤ (w3.alloc (.cells #[.int .u8 0] 5)).heap.size) := hide (by have := HB3.out.size; simp; omega)
    go_wp2_with (at_builtin; refine wpList_app_bytes rfl (.tmp 27) (.tmp 28) rfl w.heap.size v3 r [0] (w3.heap.size + 1) 1 (some ⟨w3.heap.size, 0, none⟩) rfl rfl hO.out hL.out (fun e => by cases e) (by have := HR7.out; simp; omega) hZ.out ?_)
    intro v5 w5 hown5 hgrow5 hat5
    have HB5 : Hid (Below w.heap.size w w5) := hide ((HB3.out.alloc (by have := HB3.out.size; omega) _).grown hgrow5 hZ.out (fun g hg => (World.ownsRow.lt HO3.out g hg).1))
    have HO5 := hide hown5
    clear hown5 hgrow5 hat5 hO hL hZ HO3
    obtain ⟨A5, c5, rfl, hlc5, hby5, hnil5, -⟩ := HO5.out.shape
    have hcb5 : c5 ≤ 9223372036854775807 := by
      rcases HO5.out.2 with ⟨e, _⟩ | ⟨g, cap, cur, e, _, _, hcm, hm, _⟩
      · rw [Value.slice.injEq] at e; have := e.2.1; simp at this
      · cases e; unfold maxLen at hm; omega
    have hl5 : (r ++ [0]).length ≤ 8 := by have := HR7.out; simp; omega
    have HC := hide (sip_any k0 k1 A5 c5 (r ++ [0]) w5.heap.size w5 hlc5 hcb5 (by omega) hby5 (Nat.le_refl _))
    have HR := hide (fun (w1 : World) (h : Below w5.heap.size w5 w1) => refsip_any k0 k1 A5 c5 (r ++ [0]) w5.heap.size w1 (by omega) (hby5.below h) h.size)
    generalize (r ++ [0]).length = n5 at HC HR ⊢
    clear hlc5 hby5 hnil5 hcb5 hl5 HO5
    go_wp2_with fail
    refine HC.out.mono ?_
    rintro e w6 ⟨rfl, hb6⟩
    unfold uV
    have HB6 := hide hb6
    clear hb6 HC
    go_wp2_with fail
    refine (HR.out w6 HB6.out).mono ?_
    rintro e w7 ⟨rfl, hb7⟩
    unfold uV
    have HB7 := hide (HB6.out.trans (hb7.mono HB6.out.size))
    clear hb7 HR
    go_wp2_with fail
    refine (knownH_any w7).mono ?_
    rintro e w8 ⟨rfl, hb8⟩
    have HB8 := hide (HB7.out.trans (hb8.mono HB7.out.size))
    clear hb8
    go_wp2
    go_ret
    exact ⟨rfl, HB5.out.trans (HB8.out.mono HB5.out.size)⟩

theorem toNat_of {n : Nat} (h : n ≤ 18446744073709551615) : ((BitVec.ofNat 64 n).toNat : Int) = (n : Int) := by
  rw [BitVec.toNat_ofNat, Nat.mod_eq_of_lt (show n < 2 ^ 64 by omega)]
theorem hashMix_at (n s a b : Nat) (w : World) (h1 : n ≤ 18446744073709551615) (h2 : s ≤ 18446744073709551615) (h3 : a ≤ 18446744073709551615) (h4 : b ≤ 18446744073709551615) :
    Calls Try.prog 4 #[.int .u64 (n : Int), .int .u64 (s : Int), .int .u64 (a : Int), .int .u64 (b : Int)] w fun e w' => e = .returned (.bool true) ∧ Below w.heap.size w w' := by
  have h := hashMix_any (BitVec.ofNat 64 n) (BitVec.ofNat 64 s) (BitVec.ofNat 64 a) (BitVec.ofNat 64 b) w
  rwa [toNat_of h1, toNat_of h2, toNat_of h3, toNat_of h4] at h
theorem hashApart_at (n s a b : Nat) (w : World) (h1 : n ≤ 18446744073709551615) (h2 : s ≤ 18446744073709551615) (h3 : a ≤ 18446744073709551615) (h4 : b ≤ 18446744073709551615) :
    Calls Try.prog 5 #[.int .u64 (n : Int), .int .u64 (s : Int), .int .u64 (a : Int), .int .u64 (b : Int)] w fun e w' => e = .returned (.bool true) ∧ Below w.heap.size w w' := by
  have h := hashApart_any (BitVec.ofNat 64 n) (BitVec.ofNat 64 s) (BitVec.ofNat 64 a) (BitVec.ofNat 64 b) w
  rwa [toNat_of h1, toNat_of h2, toNat_of h3, toNat_of h4] at h
theorem hashSip_at (k0 k1 : Nat) (A : Option Addr) (c : Nat) (l : List UInt8) (w : World) (h1 : k0 ≤ 18446744073709551615) (h2 : k1 ≤ 18446744073709551615) (hl : l.length ≤ c) (hc : l.length ≤ 140737488355320) (hb : Byt w w.heap.size A l) :
    Calls Try.prog 3 #[.int .u64 (k0 : Int), .int .u64 (k1 : Int), .slice A l.length c] w fun e w' => e = .returned (.bool true) ∧ Below w.heap.size w w' := by
  have h := hashSip_any (BitVec.ofNat 64 k0) (BitVec.ofNat 64 k1) A c l w hl hc hb
  rwa [toNat_of h1, toNat_of h2] at h
theorem hashShort_at (k0 k1 : Nat) (A : Option Addr) (c : Nat) (l : List UInt8) (w : World) (h1 : k0 ≤ 18446744073709551615) (h2 : k1 ≤ 18446744073709551615) (hl : l.length ≤ c) (hcm : c ≤ 9223372036854775807) (hc : l.length ≤ 140737488355320) (hb : Byt w w.heap.size A l) (hnil : A = none → c = 0) :
    Calls Try.prog 7 #[.int .u64 (k0 : Int), .int .u64 (k1 : Int), .slice A l.length c] w fun e w' => e = .returned (.bool true) ∧ Below w.heap.size w w' := by
  have h := hashShort_any (BitVec.ofNat 64 k0) (BitVec.ofNat 64 k1) A c l w hl hcm hc hb hnil
  rwa [toNat_of h1, toNat_of h2] at h
end Go.Proofs.Ytlcgciafclfoeaa
