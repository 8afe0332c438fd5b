/-
  The walks of the statements SumsInet and SumsCrc: whatever the bytes and the numbers, true; nothing that was there is written.
-/
import Derived.Test.YtmfebpagjfkclaaKnown
namespace Go.Proofs.Ytmfebpagjfkclaa
open Go.RowKit

set_option maxHeartbeats 1000000 in
theorem sumsInet_any (A : Option Addr) (c : Nat) (l : List UInt8) (s was is : Nat) (w : World) (hl : l.length ≤ c) (hc : l.length ≤ 140737488355320) (hb : Byt w w.heap.size A l) (hs : s ≤ 65535) (hwas : was ≤ 65535) (his : is ≤ 65535) :
    Calls Try.prog 9 #[.slice A l.length c, .int .u16 (s : Int), .int .u16 (was : Int), .int .u16 (is : Int)] w fun e w' => e = .returned (.bool true) ∧ Below w.heap.size w w' := by
  go_enter Try.func9, Try.ntmps9
  go_wp2_with fail
  refine (lent_any A c l w.heap.size w hl hc hb (Nat.le_refl _)).mono ?_
  rintro e w1 ⟨rfl, hL, hb1⟩
  have hby := hb.below hb1
  have hbl := hL.byt hL.lt
  go_wp2_with fail
  refine (add_any s _ (l.length + 8) l w1.heap.size w1 hs (by omega) (by omega) (by exact hbl)).mono ?_
  rintro e w2 ⟨rfl, n2, rfl⟩
  go_wp2_with fail
  refine (refadd_any s A c l w.heap.size _ hs hl (by omega) (by exact hby)).mono ?_
  rintro e w2 ⟨rfl, rfl⟩
  go_wp2_with fail
  refine (inet_any _ (l.length + 8) l w1.heap.size _ (by omega) (by omega) (by exact hbl)).mono ?_
  rintro e w2 ⟨rfl, n3, rfl⟩
  go_wp2_with fail
  refine (refinet_any A c l w.heap.size _ hl (by omega) (by exact hby)).mono ?_
  rintro e w2 ⟨rfl, rfl⟩
  go_wp2_with fail
  refine (update_any s was is _ hs hwas his).mono ?_
  rintro e w2 ⟨rfl, rfl⟩
  go_wp2_with fail
  refine (refupdate_any s was is _ hs hwas his).mono ?_
  rintro e w2 ⟨rfl, rfl⟩
  go_wp2_with fail
  refine (kept_any A c w.heap.size l w.heap.size _ hl hc (by exact hby) (by exact hL)).mono ?_
  rintro e w2 ⟨rfl, rfl⟩
  go_wp2_with fail
  refine (known_any _).mono ?_
  rintro e w3 ⟨rfl, hb3⟩
  go_wp2
  go_ret
  exact ⟨rfl, (below_drewN hb1 _).trans (hb3.mono (by have := hb1.size; simp; omega))⟩

set_option maxHeartbeats 1000000 in
theorem sumsCrc_any (A : Option Addr) (c : Nat) (l : List UInt8) (S : BitVec 32) (w : World) (hl : l.length ≤ c) (hc : l.length ≤ 140737488355320) (hb : Byt w w.heap.size A l) :
    Calls Try.prog 10 #[.slice A l.length c, .int .u32 (S.toNat : Int)] w fun e w' => e = .returned (.bool true) ∧ Below w.heap.size w w' := by
  go_enter Try.func10, Try.ntmps10
  go_wp2_with fail
  refine (lent_any A c l w.heap.size w hl hc hb (Nat.le_refl _)).mono ?_
  rintro e w1 ⟨rfl, hL, hb1⟩
  have hby := hb.below hb1
  have hbl := hL.byt hL.lt
  go_wp2_with fail
  refine (crc_any _ (l.length + 8) l w1.heap.size w1 (by omega) (by omega) (by exact hbl)).mono ?_
  rintro e w2 ⟨rfl, rfl⟩
  go_wp2_with fail
  refine (refcrc_any A c l w.heap.size _ hl (by omega) (by exact hby)).mono ?_
  rintro e w2 ⟨rfl, rfl⟩
  go_wp2_with fail
  refine (more_any S _ (l.length + 8) l w1.heap.size _ (by omega) (by omega) (by exact hbl)).mono ?_
  rintro e w2 ⟨rfl, rfl⟩
  go_wp2_with fail
  refine (refmore_any S A c l w.heap.size _ hl (by omega) (by exact hby)).mono ?_
  rintro e w2 ⟨rfl, rfl⟩
  go_wp2_with fail
  refine (kept_any A c w.heap.size l w.heap.size _ hl hc (by exact hby) (by exact hL)).mono ?_
  rintro e w2 ⟨rfl, rfl⟩
  go_wp2_with fail
  refine (known_any _).mono ?_
  rintro e w3 ⟨rfl, hb3⟩
  go_wp2
  go_ret
  exact ⟨rfl, hb1.trans (hb3.mono (by have := hb1.size; omega))⟩

theorem sumsCrc_at (A : Option Addr) (c : Nat) (l : List UInt8) (n : Nat) (w : World) (hl : l.length ≤ c) (hc : l.length ≤ 140737488355320) (hb : Byt w w.heap.size A l) (hn : n ≤ 4294967295) :
    Calls Try.prog 10 #[.slice A l.length c, .int .u32 (n : Int)] w fun e w' => e = .returned (.bool true) ∧ Below w.heap.size w w' := by
  have h := sumsCrc_any A c l (BitVec.ofNat 32 n) w hl hc hb
  rw [BitVec.toNat_ofNat, Nat.mod_eq_of_lt (by omega)] at h
  exact h
end Go.Proofs.Ytmfebpagjfkclaa
