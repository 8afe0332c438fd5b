/-
  The walk of the statement SumsUpdates: true; nothing that was there is written.
-/
import Derived.Test.YtmfebpagjfkclaaSumsM
namespace Go.Proofs.Ytmfebpagjfkclaa
open Go.RowKit

set_option maxHeartbeats 2000000 in
theorem sumsUpdates_any (A : Option Addr) (c : Nat) (l : List UInt8) (at_ : Int) (is : Nat) (w : World) (hl : l.length ≤ c) (hc : l.length ≤ 140737488355320) (hb : Byt w w.heap.size A l) (hnil : A = none → c = 0) (his : is ≤ 65535) :
    Calls Try.prog 13 #[.slice A l.length c, .int .i64 at_, .int .u16 (is : Int)] w fun e w' => e = .returned (.bool true) ∧ Below w.heap.size w w' := by
  by_cases hsm : l.length < 2
  · go_enter Try.func13, Try.ntmps13
    go_wp2_with (go_at_call 47; refine (known_any _).mono ?_; rintro e w3 ⟨rfl, hb3⟩)
    go_ret
    exact ⟨rfl, hb3⟩
  · have hK := count_lt at_ (n := l.length / 2) (by omega)
    obtain ⟨K, hKK⟩ : ∃ K, K = countS at_ (l.length / 2) := ⟨_, rfl⟩
    have hcount := hide (count_any at_ (l.length / 2) w (by omega) (by omega))
    rw [← hKK] at hK hcount
    clear hKK
    have hk : 2 * K + 1 < l.length := by omega
    obtain ⟨b, off, rfl, hbB, hcell⟩ := hb (by omega)
    obtain ⟨x, hx0⟩ : ∃ x, x = l[2 * K]'(by omega) := ⟨_, rfl⟩
    obtain ⟨y, hy0⟩ : ∃ y, y = l[2 * K + 1]'(by omega) := ⟨_, rfl⟩
    have hx : x.toNat ≤ 255 := by have := x.toNat_lt; omega
    have hy : y.toNat ≤ 255 := by have := y.toNat_lt; omega
    have hc0 : w.cell? ⟨b, off + 2 * K, none⟩ = some (.int .u8 (x.toNat : Int)) := by rw [hx0]; exact hcell (2 * K) _
    have hc1 : w.cell? ⟨b, off + (2 * K + 1), none⟩ = some (.int .u8 (y.toNat : Int)) := by rw [hy0]; exact hcell (2 * K + 1) _
    obtain ⟨k, hkk⟩ : ∃ k, k = 2 * K := ⟨_, rfl⟩
    have HX := hide hx0
    have HY := hide hy0
    clear hx0 hy0 hcell
    go_enter Try.func13, Try.ntmps13
    go_wp2_with fail
    rw [show ((l.length : Int) / 2) = ((l.length / 2 : Nat) : Int) from by omega]
    refine hcount.out.mono ?_
    rintro e w1 ⟨rfl, rfl⟩
    have hi0 : (2 * (K : Int)) < (l.length : Int) := by omega
    have hi1 : (2 * (K : Int)) + 1 < (l.length : Int) := by omega
    go_wp2_with fail
    go_quiet (fail)
    rw [or_word x y]
    have hword := word_le x y
    obtain ⟨W0, hW0⟩ : ∃ W0, W0 = x.toNat * 256 + y.toNat := ⟨_, rfl⟩
    rw [← hW0] at hword ⊢
    have HW0 := hide hW0
    clear hW0
    go_wp2_with fail
    refine (inet_any _ c l w.heap.size _ hl (by omega) (by exact hb)).mono ?_
    rintro e w2 ⟨rfl, n2, rfl⟩
    have hle := inetS_le l
    obtain ⟨N, hN⟩ : ∃ N, N = inetS l := ⟨_, rfl⟩
    rw [← hN] at hle ⊢
    have HN := hide hN
    clear hN
    go_wp2_with fail
    refine (update_any N W0 is _ hle hword his).mono ?_
    rintro e w2 ⟨rfl, rfl⟩
    have hule := updS_le N W0 is
    obtain ⟨U, hU⟩ : ∃ U, U = updS N W0 is := ⟨_, rfl⟩
    rw [← hU] at hule ⊢
    have HU := hide hU
    clear hU
    go_wp2_with (at_builtin; refine wpList_app_bytes rfl (.tmp 40) (.tmp 41) rfl w.heap.size (.slice none 0 0) [] l w.heap.size c (some ⟨b, off, none⟩) rfl rfl (OwnB.nil _ _) (by exact hb) hnil (by simp; omega) (by simp) ?_)
    intro v3 w3 hown3 hgr3 hat3
    have hb3 : Below w.heap.size w w3 := (below_drewN (Below.refl _ _) _).grown hgr3 (by simp) (fun k hk => by simp [Value.ownBlock] at hk)
    obtain ⟨g, c3, rfl, hl3, hg1, hg2⟩ := hown3.pos (by omega)
    have hd0 : w3.cell? ⟨g, 2 * K, none⟩ = some (.int .u8 (l[2 * K].toNat : Int)) := hown3.cell (2 * K) (by omega)
    have hf0 : w3.frozen? ⟨g, 2 * K, none⟩ = false := hown3.frozen _
    have hown4 := hown3.set (2 * K) (hiB is)
    have hd1 : (w3.setCell ⟨g, 2 * K, none⟩ (.int .u8 ((hiB is).toNat : Int))).cell? ⟨g, 2 * K + 1, none⟩ = some (.int .u8 (l[2 * K + 1].toNat : Int)) := by
      have := OwnB.cell (l := l.set (2 * K) (hiB is)) (c := c3) (by rw [List.length_set]; exact hown4) (2 * K + 1) (by rw [List.length_set]; omega)
      rw [this, List.getElem_set_ne (by omega)]
    have hf1 : (w3.setCell ⟨g, 2 * K, none⟩ (.int .u8 ((hiB is).toNat : Int))).frozen? ⟨g, 2 * K + 1, none⟩ = false := OwnB.frozen (l := l.set (2 * K) (hiB is)) (c := c3) (by rw [List.length_set]; exact hown4) _
    have hown5 := OwnB.set (l := l.set (2 * K) (hiB is)) (c := c3) (by rw [List.length_set]; exact hown4) (2 * K + 1) (loB is)
    have hv0 : ((hiB is).toNat : Int) = (is : Int) / 256 := by rw [hiB_toNat his]; omega
    have hv1 : ((loB is).toNat : Int) = (is : Int) % 256 := by rw [loB_toNat]; omega
    rw [hv0] at hd1 hf1
    rw [hv0, hv1] at hown5
    clear hgr3 hat3 hv0 hv1 hown4 hown3
    obtain ⟨L, hL⟩ : ∃ L, L = (l.set (2 * K) (hiB is)).set (2 * K + 1) (loB is) := ⟨_, rfl⟩
    have hLl : L.length = l.length := by rw [hL]; simp
    have hown6 : OwnB ((w3.setCell ⟨g, 2 * K, none⟩ (.int .u8 ((is : Int) / 256))).setCell ⟨g, 2 * K + 1, none⟩ (.int .u8 ((is : Int) % 256))) w.heap.size (.slice (some ⟨g, 0, none⟩) L.length c3) L := by
      rw [hLl, hL]; rw [List.length_set] at hown5; exact hown5
    have hb6 : Below w.heap.size w ((w3.setCell ⟨g, 2 * K, none⟩ (.int .u8 ((is : Int) / 256))).setCell ⟨g, 2 * K + 1, none⟩ (.int .u8 ((is : Int) % 256))) := (hb3.setCell (by exact hg1) _).setCell (by exact hg1) _
    have hcall := inet_any (some ⟨g, 0, none⟩) c3 L (g + 1) _ (by omega) (by omega) (hown6.byt (Nat.lt_succ_self g))
    rw [hLl] at hcall
    have HCALL := hide hcall
    have HL := hide hL
    have HB6 := hide hb6
    clear hcall hL hown5 hown6 hLl hb6
    go_wp2_with fail
    refine (HCALL.out).mono ?_
    rintro e w7 ⟨rfl, n7, rfl⟩
    have hcase := upd_same l hk (by omega) (hiB is) (loB is)
    rw [← HL.out, ← HX.out, ← HY.out, ← HW0.out, ← HN.out, show (hiB is).toNat * 256 + (loB is).toNat = is from by rw [hiB_toNat his, loB_toNat]; omega, ← HU.out] at hcase
    obtain ⟨M, hM⟩ : ∃ M, M = inetS L := ⟨_, rfl⟩
    rw [← hM] at hcase ⊢
    have hMle : M ≤ 65535 := by rw [hM]; exact inetS_le L
    clear hM HU HN HW0 HCALL hcount hb3 hc0 hc1 hd0 hd1 hf0 hf1
    have hfin : ∀ (wf : World), Below w.heap.size (((w3.setCell ⟨g, 2 * K, none⟩ (.int .u8 ((is : Int) / 256))).setCell ⟨g, 2 * K + 1, none⟩ (.int .u8 ((is : Int) % 256))).drewN n7) wf → Below w.heap.size w wf := fun wf hwf => (below_drewN HB6.out n7).trans hwf
    have hsz : w.heap.size ≤ (((w3.setCell ⟨g, 2 * K, none⟩ (.int .u8 ((is : Int) / 256))).setCell ⟨g, 2 * K + 1, none⟩ (.int .u8 ((is : Int) % 256))).drewN n7).heap.size := (below_drewN HB6.out n7).size
    generalize ((w3.setCell ⟨g, 2 * K, none⟩ (.int .u8 ((is : Int) / 256))).setCell ⟨g, 2 * K + 1, none⟩ (.int .u8 ((is : Int) % 256))).drewN n7 = w8 at hfin hsz
    rcases hcase with h | ⟨h1, h2⟩ | ⟨h1, h2⟩
    · subst h
      go_wp2_with fail
      refine (known_any _).mono ?_
      rintro e w9 ⟨rfl, hb9⟩
      go_wp2
      go_ret
      exact ⟨rfl, hfin _ (hb9.mono hsz)⟩
    · subst h1; subst h2
      go_wp2_with fail
      refine (known_any _).mono ?_
      rintro e w9 ⟨rfl, hb9⟩
      go_wp2
      go_ret
      exact ⟨rfl, hfin _ (hb9.mono hsz)⟩
    · subst h1; subst h2
      go_wp2_with fail
      refine (known_any _).mono ?_
      rintro e w9 ⟨rfl, hb9⟩
      go_wp2
      go_ret
      exact ⟨rfl, hfin _ (hb9.mono hsz)⟩
end Go.Proofs.Ytmfebpagjfkclaa
