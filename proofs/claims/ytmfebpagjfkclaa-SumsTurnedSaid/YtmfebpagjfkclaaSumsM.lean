/-
  The walks of the statements SumsOwn, SumsPieces and SumsUpdates: true; nothing that was there is written.
-/
import Derived.Test.YtmfebpagjfkclaaKnown
namespace Go.Proofs.Ytmfebpagjfkclaa
open Go.RowKit

def hiB (n : Nat) : UInt8 := UInt8.ofNat (n / 256)
def loB (n : Nat) : UInt8 := UInt8.ofNat (n % 256)
theorem hiB_toNat {n : Nat} (h : n ≤ 65535) : (hiB n).toNat = n / 256 := by unfold hiB; rw [UInt8.toNat_ofNat_of_lt' (by show _ < 256; omega)]
theorem loB_toNat (n : Nat) : (loB n).toNat = n % 256 := by unfold loB; rw [UInt8.toNat_ofNat_of_lt' (by show _ < 256; omega)]

theorem two_bytes (N : Nat) (h : N ≤ 65535) : #[Value.int .u8 ((N : Int) / 256), Value.int .u8 ((N : Int) % 256)] = ([hiB N, loB N].map byteV).toArray := by
  simp only [List.map_cons, List.map_nil, byteV, hiB_toNat h, loB_toNat]
  rfl

set_option maxHeartbeats 1000000 in
theorem sumsOwn_any (A : Option Addr) (c : Nat) (l : List UInt8) (w : World) (hl : l.length ≤ c) (hc : l.length ≤ 140737488355320) (hb : Byt w w.heap.size A l) (hnil : A = none → c = 0) :
    Calls Try.prog 12 #[.slice A l.length c] w fun e w' => e = .returned (.bool true) ∧ Below w.heap.size w w' := by
  obtain ⟨i0, hi, hz0, hz1, hz2⟩ := info_parts info_u8
  by_cases hodd : l.length % 2 = 1
  · have ho : ((l.length : Int) % 2 == 1) = true := by simp; omega
    go_enter Try.func12, Try.ntmps12
    go_wp2_with (go_at_call 47; refine (known_any _).mono ?_; rintro e w3 ⟨rfl, hb3⟩)
    go_ret
    exact ⟨rfl, hb3⟩
  · have ho : ((l.length : Int) % 2 == 1) = false := by simp; omega
    have hle := inetS_le l
    obtain ⟨N, hN⟩ : ∃ N, N = inetS l := ⟨_, rfl⟩
    go_enter Try.func12, Try.ntmps12
    go_wp2_with fail
    refine (inet_any A c l w.heap.size w hl (by omega) hb).mono ?_
    rintro e w1 ⟨rfl, n1, rfl⟩
    rw [← hN] at hle ⊢
    have HN := hide hN
    clear hN
    go_wp2_with (at_builtin; refine wpList_app_bytes rfl (.tmp 12) (.tmp 13) rfl w.heap.size (.slice none 0 0) [] l w.heap.size c A rfl rfl (OwnB.nil _ _) (by exact hb) hnil (by simp; omega) (by simp) ?_)
    intro v2 w2 hown2 hgr2 hat2
    have hb2 : Below w.heap.size w w2 := (below_drewN (Below.refl _ _) n1).grown hgr2 (by simp) (fun k hk => by simp [Value.ownBlock] at hk)
    have hcs := hide (two_bytes N hle)
    go_wp2_with (at_builtin; refine wpList_app_bytes rfl (.tmp 15) (.tmp 21) rfl w.heap.size v2 l [hiB N, loB N] (w2.heap.size + 1) 2 (some ⟨w2.heap.size, 0, none⟩) rfl rfl (by exact hown2.alloc _) (by exact Byt.lit w2 [hiB N, loB N] _ _ (0, 0) hcs.out) (fun e => by cases e) (by simp; omega) (by have := hb2.size; simp; omega) ?_)
    intro v3 w3 hown3 hgr3 hat3
    have hb3 : Below w.heap.size w w3 := (hb2.alloc (by have := hb2.size; omega) _).grown hgr3 (by have := hb2.size; simp; omega) (fun k hk => by
      rcases hat2 with e | e <;> rw [e] at hk <;> simp [Value.ownBlock] at hk; omega)
    have hz : inetS (l ++ [hiB N, loB N]) = 0 := own_zero l (by omega) _ _ (by rw [hiB_toNat hle, loB_toNat, ← HN.out]; omega)
    have hLl : (l ++ [hiB N, loB N]).length ≤ 140737488355328 := by simp; omega
    generalize l ++ [hiB N, loB N] = L at hown3 hz hLl
    obtain ⟨A3, c3, rfl, hl3, hby3, _, _⟩ := hown3.shape
    have hcall := inet_any A3 c3 L w3.heap.size w3 hl3 hLl hby3
    rw [hz] at hcall
    have HCALL := hide hcall
    clear hown2 hown3 hgr2 hgr3 hat2 hat3 hcall hz
    go_wp2_with fail
    refine (HCALL.out).mono ?_
    rintro e w4 ⟨rfl, n4, rfl⟩
    go_wp2_with fail
    refine (known_any _).mono ?_
    rintro e w5 ⟨rfl, hb5⟩
    go_wp2
    go_ret
    exact ⟨rfl, (below_drewN hb3 _).trans (hb5.mono (by have := hb3.size; simp; omega))⟩
end Go.Proofs.Ytmfebpagjfkclaa
