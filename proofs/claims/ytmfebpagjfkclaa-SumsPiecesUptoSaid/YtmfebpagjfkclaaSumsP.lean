/-
  The walk of the statement SumsPieces, where both pieces together are within what an append bears: true; nothing that was there is written.
-/
import Derived.Test.YtmfebpagjfkclaaSumsM
namespace Go.Proofs.Ytmfebpagjfkclaa
open Go.RowKit

theorem moreB_append (a b : List UInt8) : moreB (moreB 0 a) b = moreB 0 (a ++ b) := by
  unfold moreB
  rw [BitVec.not_not, bitsL, bitsL, bitsL, List.flatMap_append, crcB_append]

set_option maxHeartbeats 2000000 in
theorem sumsPieces_any (A B : Option Addr) (c d : Nat) (l m : List UInt8) (s : Nat) (w : World) (hl : l.length ≤ c) (hm : m.length ≤ d) (hlen : l.length + m.length ≤ 140737488355328) (hb : Byt w w.heap.size A l) (hb2 : Byt w w.heap.size B m) (hnil : A = none → c = 0) (hnil2 : B = none → d = 0) (hs : s ≤ 65535) :
    Calls Try.prog 11 #[.slice A l.length c, .slice B m.length d, .int .u16 (s : Int)] w fun e w' => e = .returned (.bool true) ∧ Below w.heap.size w w' := by
  go_enter Try.func11, Try.ntmps11
  go_wp2_with (at_builtin; refine wpList_app_bytes rfl (.tmp 8) (.tmp 9) rfl w.heap.size (.slice none 0 0) [] l w.heap.size c A rfl rfl (OwnB.nil _ _) (by exact hb) hnil (by simp; omega) (by simp) ?_)
  intro v1 w1 hown1 hgr1 hat1
  have hb1 : Below w.heap.size w w1 := (Below.refl _ _).grown hgr1 (by simp) (fun k hk => by simp [Value.ownBlock] at hk)
  go_wp2_with (at_builtin; refine wpList_app_bytes rfl (.tmp 11) (.tmp 12) rfl w.heap.size v1 l m w.heap.size d B rfl rfl (by exact hown1) (by exact hb2.below hb1) hnil2 hlen hb1.size ?_)
  intro v2 w2 hown2 hgr2 hat2
  have hbw2 : Below w.heap.size w w2 := hb1.grown hgr2 hb1.size (fun k hk => by
    rcases hat1 with e | e <;> rw [e] at hk <;> simp [Value.ownBlock] at hk; omega)
  have hLl : (l ++ m).length ≤ 140737488355328 := by simp; exact hlen
  have e1 : (moreB (moreB 0 l) m) = moreB 0 (l ++ m) := moreB_append l m
  have e2 : l.length % 2 = 0 → addS (addS s l) m = addS s (l ++ m) := fun h => (addS_append s l m h).symm
  have hal := addS_le s l hs
  generalize l ++ m = L at hown2 hLl e1 e2
  obtain ⟨A3, c3, rfl, hl3, hby3, _, _⟩ := hown2.shape
  have hbl := hb.below hbw2
  have hbm := hb2.below hbw2
  have call1 := crc_any A c l w.heap.size w2 hl (by omega) hbl
  have call2 := more_any (moreB 0 l) B d m w.heap.size w2 hm (by omega) hbm
  have call3 := crc_any A3 c3 L w2.heap.size w2 hl3 hLl hby3
  rw [e1] at call2
  obtain ⟨M, hM⟩ : ∃ M, M = (moreB 0 L).toNat := ⟨_, rfl⟩
  rw [← hM] at call2 call3
  have C1 := hide call1
  have C2 := hide call2
  have C3 := hide call3
  have E2 := hide e2
  clear call1 call2 call3 e1 e2 hM hown1 hown2 hgr1 hgr2 hat1 hat2 hb1
  by_cases hodd : l.length % 2 = 1
  · have ho : ((l.length : Int) % 2 == 1) = true := by simp; omega
    go_wp2_with fail
    refine C1.out.mono ?_
    rintro e w3 ⟨rfl, rfl⟩
    go_wp2_with fail
    refine C2.out.mono ?_
    rintro e w3 ⟨rfl, rfl⟩
    go_wp2_with fail
    refine C3.out.mono ?_
    rintro e w3 ⟨rfl, rfl⟩
    go_wp2_with fail
    refine (known_any _).mono ?_
    rintro e w4 ⟨rfl, hb4⟩
    go_wp2
    go_ret
    exact ⟨rfl, hbw2.trans (hb4.mono hbw2.size)⟩
  · have ho : ((l.length : Int) % 2 == 1) = false := by simp; omega
    go_wp2_with fail
    refine C1.out.mono ?_
    rintro e w3 ⟨rfl, rfl⟩
    go_wp2_with fail
    refine C2.out.mono ?_
    rintro e w3 ⟨rfl, rfl⟩
    go_wp2_with fail
    refine C3.out.mono ?_
    rintro e w3 ⟨rfl, rfl⟩
    go_wp2_with fail
    refine (add_any s A c l w.heap.size _ hs hl (by omega) (by exact hbl)).mono ?_
    rintro e w3 ⟨rfl, n1, rfl⟩
    go_wp2_with fail
    refine (add_any (addS s l) B d m w.heap.size _ hal hm (by omega) (by exact hbm)).mono ?_
    rintro e w3 ⟨rfl, n2, rfl⟩
    go_wp2_with fail
    refine (add_any s A3 c3 L w2.heap.size _ hs hl3 hLl (by exact hby3)).mono ?_
    rintro e w3 ⟨rfl, n3, rfl⟩
    rw [E2.out (by omega)]
    go_wp2_with fail
    refine (known_any _).mono ?_
    rintro e w4 ⟨rfl, hb4⟩
    go_wp2
    go_ret
    exact ⟨rfl, (below_drewN hbw2 _).trans (hb4.mono (by have := hbw2.size; simp; omega))⟩
end Go.Proofs.Ytmfebpagjfkclaa
