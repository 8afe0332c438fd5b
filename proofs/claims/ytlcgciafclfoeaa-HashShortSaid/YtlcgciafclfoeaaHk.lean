/-
  The fixed calls of steelyardlaw09.
-/
import Derived.Test.YtlcgciafclfoeaaHx
namespace Go.Proofs.Ytlcgciafclfoeaa
open Go.RowKit
set_option linter.unusedVariables false

def upBytes (k : Nat) : List UInt8 := (List.range k).map UInt8.ofNat
theorem up_length (k : Nat) : (upBytes k).length = k := by simp [upBytes]
theorem up_succ (k : Nat) : upBytes (k + 1) = upBytes k ++ [UInt8.ofNat k] := by simp [upBytes, List.range_succ]
theorem sip_fixed : sipB 506097522914230528#64 1084818905618843912#64 (upBytes 15) = 11613035633349379557#64 := by
  unfold sipB
  rw [bodyS_more (by decide), bodyS_end (by decide)]
  decide +kernel
theorem mix_fixed : mixB 0#64 = 16294208416658607535#64 := by decide +kernel

set_option maxHeartbeats 2000000 in
theorem knownH_any (w : World) : Calls Try.prog 12 #[] w fun e w' => e = .returned (.bool true) ∧ Below w.heap.size w w' := by
  go_enter Try.func12, Try.ntmps12
  go_wp2
  go_loopw [1, 2] (fun v i wr => ∃ k : Nat, k ≤ 15 ∧ i = .int .i64 (k : Int) ∧ Hid (OwnB wr w.heap.size v (upBytes k)) ∧ Hid (Below w.heap.size w wr)) (fun _ i _ => 15 - (intOf i).toNat)
  case atStart => exact ⟨0, by omega, rfl, hide (OwnB.nil _ _), hide (Below.refl _ _)⟩
  case round =>
    obtain ⟨k, hk, rfl, hown, hbel⟩ := hrel
    by_cases hlt : k < 15
    · have hx : ((UInt8.ofNat k).toNat : Int) = (k : Int) := by
        rw [UInt8.toNat_ofNat_of_lt' (by show k < 256; omega)]
      have hL : Hid (Byt (wr.alloc (.cells #[.int .u8 (k : Int)] 5)) (wr.heap.size + 1) (some ⟨wr.heap.size, 0, none⟩) [UInt8.ofNat k]) := hide (Byt.lit wr [UInt8.ofNat k] #[.int .u8 (k : Int)] 5 (0, 0) (by rw [← hx]; rfl))
      have hO : Hid (OwnB (wr.alloc (.cells #[.int .u8 (k : Int)] 5)) w.heap.size u1 (upBytes k)) := hide (hown.out.alloc _)
      have hZ : Hid (w.heap.size ≤ (wr.alloc (.cells #[.int .u8 (k : Int)] 5)).heap.size) := hide (by have := hbel.out.size; simp; omega)
      clear hx
      go_wp2_with (at_builtin; refine wpList_app_bytes rfl (.tmp 7) (.tmp 10) rfl w.heap.size u1 (upBytes k) [UInt8.ofNat k] (wr.heap.size + 1) 1 (some ⟨wr.heap.size, 0, none⟩) rfl rfl hO.out hL.out (fun e => by cases e) (by rw [up_length]; simp; omega) hZ.out ?_)
      intro v5 w5 hown5 hgrow5 hat5
      rw [← up_succ] at hown5
      have HO5 := hide hown5
      have HB5 : Hid (Below w.heap.size w w5) := hide ((hbel.out.alloc (by have := hbel.out.size; omega) _).grown hgrow5 hZ.out (fun g hg => (World.ownsRow.lt hown.out g hg).1))
      clear hown5 hgrow5 hat5 hL hO hZ hown hbel
      go_wp2
      go_roundw
      case rel => exact ⟨k + 1, by omega, by go_num, HO5, HB5⟩
      case measure => simp [intOf]; omega
    · obtain rfl : k = 15 := by omega
      clear hlt
      obtain ⟨A, c, rfl, hlc, hby, hnil, -⟩ := hown.out.shape
      have hcb : c ≤ 9223372036854775807 := by
        rcases hown.out.2 with ⟨e, _⟩ | ⟨g, cap, cur, e, _, _, hcm, hm, _⟩
        · cases e
        · cases e; unfold maxLen at hm; omega
      have HC := hide (sip_any 506097522914230528#64 1084818905618843912#64 A c (upBytes 15) wr.heap.size wr hlc hcb (by rw [up_length]; omega) hby (Nat.le_refl _))
      have HM := hide (mix_any 0#64)
      have HP := hide (port_any 16385#64)
      clear hlc hcb hby hnil hown
      go_wp2_with fail
      refine HC.out.mono ?_
      rintro e w1 ⟨rfl, hb1⟩
      rw [sip_fixed]
      have HB1 := hide (hbel.out.trans (hb1.mono hbel.out.size))
      clear hb1 HC
      unfold uV
      go_wp2_with fail
      refine (HM.out w1).mono ?_
      rintro e w2 ⟨rfl, rfl⟩
      rw [mix_fixed]
      unfold uV
      go_wp2_with fail
      refine (HP.out w1).mono ?_
      rintro e w2 ⟨rfl, rfl⟩
      go_wp2
      go_ret
      exact ⟨rfl, HB1.out⟩
end Go.Proofs.Ytlcgciafclfoeaa
