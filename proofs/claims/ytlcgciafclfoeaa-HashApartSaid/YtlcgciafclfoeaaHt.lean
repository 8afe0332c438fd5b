/-
  The walks of a word more and of bytes as a number, the program's; of Sip.
-/
import Derived.Test.YtlcgciafclfoeaaHr
namespace Go.Proofs.Ytlcgciafclfoeaa
open Go.RowKit
set_option linter.unusedVariables false

set_option maxHeartbeats 2000000 in
theorem take_any (w : World) (g : Nat) (s : Sip4) (m : BitVec 64) (h : StH w g 43 s) :
    Calls Try.prog 21 #[.pointer (some ⟨g, 0, none⟩), uV m] w fun e w' => e = .returned (.tuple #[]) ∧ StH w' g 43 (inS s m) ∧ Below g w w' := by
  have ci := h.c3
  have fi := h.fr 3
  have H : ∀ x, StH (w.setCell ⟨g, 3, none⟩ (uV x)).drew g 43 (⟨s.a, s.b, s.c, x⟩ : Sip4) := fun x => h.set 3 x rfl
  have HH := hide H
  clear h H
  unfold uV
  go_enter Try.func21, Try.ntmps21
  go_wp2
  go_still_tail 8, (by kernel_rfl)
  change wpList _ _ _ _ _ w.drew
  go_wp2_with fail
  rw [c_xor]
  have hW : StH (w.setCell ⟨g, 3, none⟩ (Value.int IntKind.u64 ((s.d ^^^ m).toNat : Int))).drew g 43 _ := HH.out _
  have hB : Below g w (w.setCell ⟨g, 3, none⟩ (Value.int IntKind.u64 ((s.d ^^^ m).toNat : Int))).drew := ((Below.refl g w).setCell (Nat.le_refl _) _).drew
  generalize (w.setCell ⟨g, 3, none⟩ (Value.int IntKind.u64 ((s.d ^^^ m).toNat : Int))).drew = W at hW hB ⊢
  clear ci fi HH
  refine (rounds_any W g 2 _ (by omega) hW).mono ?_
  rintro e W1 ⟨rfl, hW1, hb1⟩
  have hB1 := hB.trans hb1
  have HI : Hid (inS s m = (⟨(roundsS 2 (⟨s.a, s.b, s.c, s.d ^^^ m⟩ : Sip4)).a ^^^ m, (roundsS 2 (⟨s.a, s.b, s.c, s.d ^^^ m⟩ : Sip4)).b, (roundsS 2 (⟨s.a, s.b, s.c, s.d ^^^ m⟩ : Sip4)).c, (roundsS 2 (⟨s.a, s.b, s.c, s.d ^^^ m⟩ : Sip4)).d⟩ : Sip4)) := hide rfl
  clear hW hB hb1
  generalize roundsS 2 (⟨s.a, s.b, s.c, s.d ^^^ m⟩ : Sip4) = t at hW1 HI
  have ci := hW1.c0
  have fi := hW1.fr 0
  have H : ∀ x, StH (W1.setCell ⟨g, 0, none⟩ (uV x)).drew g 43 (⟨x, t.b, t.c, t.d⟩ : Sip4) := fun x => hW1.set 0 x rfl
  have HH := hide H
  have HB := hide hB1
  clear hW1 H hB1
  go_wp2_with fail
  go_still_tail 8, (by kernel_rfl)
  change wpList _ _ _ _ _ W1.drew
  go_wp2
  go_end0
  exact ⟨rfl, by rw [c_xor, HI.out]; exact HH.out _, (HB.out.setCell (Nat.le_refl _) _).drew⟩

theorem shl_cast (x : UInt8) (k : Nat) (hk : k < 8) : IntKind.u64.wrap ((x.toNat : Int) * 2 ^ (8 * k)) = ((BitVec.ofNat 64 x.toNat <<< (8 * k)).toNat : Int) := by
  have hx := x.toNat_lt
  rw [BitVec.toNat_shiftLeft, Nat.shiftLeft_eq, IntKind.wrap_u64, BitVec.toNat_ofNat]
  rw [Nat.mod_eq_of_lt (show x.toNat < 2 ^ 64 by omega)]
  simp

set_option maxHeartbeats 2000000 in
theorem word_any (A : Option Addr) (c : Nat) (l : List UInt8) (B : Nat) (w : World) (hl : l.length ≤ 8) (hb : Byt w B A l) :
    Calls Try.prog 22 #[.slice A l.length c] w fun e w' => e = .returned (uV (wordB l)) ∧ w = w' := by
  obtain ⟨n, hn⟩ : ∃ n, n = l.length := ⟨_, rfl⟩
  rw [← hn] at hl ⊢
  have hlen := hide hn
  clear hn
  go_enter Try.func22, Try.ntmps22
  go_wp2
  go_loop [3, 4, 5, 8] (fun m _ _ i => ∃ k : Nat, k ≤ n ∧ i = .int .i64 (k : Int) ∧ m = .int .u64 ((wordB (l.take k)).toNat : Int))
    (fun _ _ _ i => n - (intOf i).toNat)
  case atStart => exact ⟨0, by omega, rfl, rfl⟩
  case round =>
    obtain ⟨k, hk, rfl, rfl⟩ := hrel
    by_cases hlt : k < n
    · obtain ⟨b, off, rfl, hbB, hcell⟩ := hb (by have := hlen.out; omega)
      have hkl : k < l.length := by have := hlen.out; omega
      have ht := wordB_take hkl
      obtain ⟨x, hx0⟩ : ∃ x, x = l[k]'hkl := ⟨_, rfl⟩
      rw [← hx0] at ht
      have hx : x.toNat ≤ 255 := by have := x.toNat_lt; omega
      have hc0 : w.cell? ⟨b, off + k, none⟩ = some (.int .u8 (x.toNat : Int)) := by rw [hx0]; exact hcell k _
      have hk8 : k < 8 := by omega
      have HT := hide ht
      have HL := hide hkl
      generalize wordB (l.take k) = M at HT
      clear hcell hx0 ht hkl
      go_wp2
      go_round
      case rel => exact ⟨k + 1, by omega, by go_num, by rw [HT.out, ← c_or, ← shl_cast x k hk8]⟩
      case measure => simp [intOf]; omega
    · have hfin : wordB (l.take k) = wordB l := by rw [List.take_of_length_le (by have := hlen.out; omega)]
      rw [hfin]
      clear hfin
      go_wp2
      go_ret
      exact ⟨rfl, rfl⟩

theorem Byt.take {w : World} {B : Nat} {A : Option Addr} {l : List UInt8} (h : Byt w B A l) (k : Nat) : Byt w B A (l.take k) := fun hl => by
  rw [List.length_take] at hl
  obtain ⟨b, off, e, hb, hc⟩ := h (by omega)
  refine ⟨b, off, e, hb, fun i hi => ?_⟩
  rw [List.length_take] at hi
  rw [List.getElem_take]
  exact hc i (by omega)
theorem start_lit0 (k : BitVec 64) : bits .xor .u64 (k.toNat : Int) 8317987319222330741 = ((k ^^^ 8317987319222330741#64).toNat : Int) := c_xor k 8317987319222330741#64
theorem start_lit1 (k : BitVec 64) : bits .xor .u64 (k.toNat : Int) 7237128888997146477 = ((k ^^^ 7237128888997146477#64).toNat : Int) := c_xor k 7237128888997146477#64
theorem start_lit2 (k : BitVec 64) : bits .xor .u64 (k.toNat : Int) 7816392313619706465 = ((k ^^^ 7816392313619706465#64).toNat : Int) := c_xor k 7816392313619706465#64
theorem start_lit3 (k : BitVec 64) : bits .xor .u64 (k.toNat : Int) 8387220255154660723 = ((k ^^^ 8387220255154660723#64).toNat : Int) := c_xor k 8387220255154660723#64

def lenOfS : Value → Nat
  | .slice _ n _ => n
  | _ => 0

set_option maxHeartbeats 2000000 in
theorem sip_any (k0 k1 : BitVec 64) (A : Option Addr) (c : Nat) (l : List UInt8) (B : Nat) (w : World) (hl : l.length ≤ c) (hc : c ≤ 9223372036854775807) (hn47 : l.length ≤ 140737488355328) (hb : Byt w B A l) (hB : B ≤ w.heap.size) :
    Calls Try.prog 9 #[uV k0, uV k1, .slice A l.length c] w fun e w' => e = .returned (uV (sipB k0 k1 l)) ∧ Below w.heap.size w w' := by
  obtain ⟨n, hn⟩ : ∃ n, n = l.length := ⟨_, rfl⟩
  rw [← hn] at hl hn47 ⊢
  have hlen := hide hn
  clear hn
  unfold uV
  go_enter Try.func9, Try.ntmps9
  go_wp2
  rw [start_lit0, start_lit1, start_lit2, start_lit3]
  have hS0 : StH (w.alloc (.cells #[.int .u64 ((k0 ^^^ 8317987319222330741#64).toNat : Int), .int .u64 ((k1 ^^^ 7237128888997146477#64).toNat : Int), .int .u64 ((k0 ^^^ 7816392313619706465#64).toNat : Int), .int .u64 ((k1 ^^^ 8387220255154660723#64).toNat : Int)] 43)) w.heap.size 43 (startS k0 k1) := heap_alloc_new w _
  have hB0 : Below w.heap.size w (w.alloc (.cells #[.int .u64 ((k0 ^^^ 8317987319222330741#64).toNat : Int), .int .u64 ((k1 ^^^ 7237128888997146477#64).toNat : Int), .int .u64 ((k0 ^^^ 7816392313619706465#64).toNat : Int), .int .u64 ((k1 ^^^ 8387220255154660723#64).toNat : Int)] 43)) := (Below.refl _ _).alloc (Nat.le_refl _) _
  have HFIN : Hid (sipB k0 k1 l = endS (bodyS (startS k0 k1) l).1 (bodyS (startS k0 k1) l).2 n) := hide (by rw [hlen.out]; rfl)
  generalize startS k0 k1 = s0 at hS0 HFIN
  generalize (w.alloc (.cells #[.int .u64 ((k0 ^^^ 8317987319222330741#64).toNat : Int), .int .u64 ((k1 ^^^ 7237128888997146477#64).toNat : Int), .int .u64 ((k0 ^^^ 7816392313619706465#64).toNat : Int), .int .u64 ((k1 ^^^ 8387220255154660723#64).toNat : Int)] 43)) = W0 at hS0 hB0 ⊢
  have HS0 := hide hS0
  have HB0 := hide hB0
  have HBY := hide (hb.below (hB0.mono hB))
  generalize (k0 ^^^ 8317987319222330741#64) = q0
  generalize (k1 ^^^ 7237128888997146477#64) = q1
  generalize (k0 ^^^ 7816392313619706465#64) = q2
  generalize (k1 ^^^ 8387220255154660723#64) = q3
  clear hS0 hB0 hb
  go_loopw [2] (fun v wr => ∃ (A' : Option Addr) (r : List UInt8) (c' m : Nat) (s : Sip4), m ≤ c' ∧ c' ≤ 9223372036854775807 ∧ v = .slice A' m c' ∧ Hid (m = r.length) ∧ Hid (bodyS s r = bodyS s0 l) ∧ Hid (Byt wr B A' r) ∧ Hid (StH wr w.heap.size 43 s) ∧ Hid (Below w.heap.size w wr))
    (fun v _ => lenOfS v)
  case atStart => exact ⟨A, l, c, n, s0, hl, hc, rfl, hlen, hide rfl, HBY, HS0, HB0⟩
  case round =>
    obtain ⟨A', r, c', m, s, hm, hc', rfl, hmr, hbody, hby, hst, hbel⟩ := hrel
    clear HS0 HB0 HBY hc hl
    by_cases hlt : 8 ≤ m
    · have hT : Byt wr B A' (r.take 8) := hby.out.take 8
      have hlT : (r.take 8).length = 8 := by have := hmr.out; rw [List.length_take]; omega
      have hW := word_any A' c' (r.take 8) B wr (by omega) hT
      rw [hlT] at hW
      have hX := bodyS_more (s := s) (l := r) (by have := hmr.out; omega)
      rw [hbody.out] at hX
      have HX := hide hX.symm
      have HW := hide hW
      have hin : (8 : Int) ≤ (m : Int) := by omega
      clear hT hlT hW hX
      go_wp2_with fail
      refine HW.out.mono ?_
      rintro e w1 ⟨rfl, rfl⟩
      go_wp2_with fail
      refine (take_any wr w.heap.size s _ hst.out).mono ?_
      rintro e w1 ⟨rfl, hst1, hb1⟩
      have HS1 := hide hst1
      have HB1 := hide (hbel.out.trans hb1)
      have hby1 := hby.out.below (hb1.mono hB)
      have HL : Hid (m - 8 = (r.drop 8).length) := hide (by have := hmr.out; rw [List.length_drop]; omega)
      by_cases hcap : c' = 8
      · subst hcap
        have hm8 : m = 8 := by omega
        subst hm8
        have HY : Hid (Byt w1 B A' (r.drop 8)) := hide (by rw [List.length_eq_zero_iff.1 (show (r.drop 8).length = 0 by rw [← HL.out])]; exact Byt.nil _ _ _)
        clear hby1 hst1 hb1
        go_wp2
        go_roundw
        case rel => exact ⟨_, _, _, _, _, by omega, by omega, rfl, HL, HX, HY, HS1, HB1⟩
        case measure => simp [lenOfS]
      · have hcap2 : 8 < c' := by omega
        obtain ⟨b, off, rfl, hbB, -⟩ := hby.out (by have := hmr.out; omega)
        have HY : Hid (Byt w1 B (some ⟨b, off + 8, none⟩) (r.drop 8)) := hide (hby1.cut 8)
        clear hcap hby1 hst1 hb1
        go_wp2
        go_roundw
        case rel => exact ⟨_, _, _, _, _, by omega, by omega, rfl, HL, HX, HY, HS1, HB1⟩
        case measure => simp [lenOfS]; omega
    · have hX := bodyS_end (s := s) (l := r) (by have := hmr.out; omega)
      rw [hbody.out] at hX
      rw [hX] at HFIN
      have hmr' := hmr.out
      subst hmr'
      have HW := hide (word_any A' c' r B wr (by omega) hby.out)
      clear hX hbody
      go_wp2_with fail
      refine HW.out.mono ?_
      rintro e w1 ⟨rfl, rfl⟩
      unfold uV
      have HM : bits .or .u64 (IntKind.u64.wrap ((n : Int) * 72057594037927936)) ((wordB r).toNat : Int) = ((wordB r ||| (BitVec.ofNat 64 n <<< 56)).toNat : Int) := by
        have hnn : n < 2 ^ 64 := by omega
        have e : ((n : Int)) = ((BitVec.ofNat 64 n).toNat : Int) := by rw [BitVec.toNat_ofNat, Nat.mod_eq_of_lt hnn]
        rw [e, c_shl _ 56 _ (by decide), c_or, BitVec.or_comm]
      have HM' := hide HM
      clear HM
      go_wp2_with fail
      rw [HM'.out]
      refine (take_any wr w.heap.size s _ hst.out).mono ?_
      rintro e w1 ⟨rfl, hst1, hb1⟩
      have HB1 := hbel.out.trans hb1
      have HE : Hid (sipB k0 k1 l = ((roundsS 4 (⟨(inS s (wordB r ||| (BitVec.ofNat 64 n <<< 56))).a, (inS s (wordB r ||| (BitVec.ofNat 64 n <<< 56))).b, (inS s (wordB r ||| (BitVec.ofNat 64 n <<< 56))).c ^^^ 255#64, (inS s (wordB r ||| (BitVec.ofNat 64 n <<< 56))).d⟩ : Sip4)).a ^^^ (roundsS 4 (⟨(inS s (wordB r ||| (BitVec.ofNat 64 n <<< 56))).a, (inS s (wordB r ||| (BitVec.ofNat 64 n <<< 56))).b, (inS s (wordB r ||| (BitVec.ofNat 64 n <<< 56))).c ^^^ 255#64, (inS s (wordB r ||| (BitVec.ofNat 64 n <<< 56))).d⟩ : Sip4)).b ^^^ (roundsS 4 (⟨(inS s (wordB r ||| (BitVec.ofNat 64 n <<< 56))).a, (inS s (wordB r ||| (BitVec.ofNat 64 n <<< 56))).b, (inS s (wordB r ||| (BitVec.ofNat 64 n <<< 56))).c ^^^ 255#64, (inS s (wordB r ||| (BitVec.ofNat 64 n <<< 56))).d⟩ : Sip4)).c ^^^ (roundsS 4 (⟨(inS s (wordB r ||| (BitVec.ofNat 64 n <<< 56))).a, (inS s (wordB r ||| (BitVec.ofNat 64 n <<< 56))).b, (inS s (wordB r ||| (BitVec.ofNat 64 n <<< 56))).c ^^^ 255#64, (inS s (wordB r ||| (BitVec.ofNat 64 n <<< 56))).d⟩ : Sip4)).d)) := hide (by rw [HFIN.out]; rfl)
      clear HFIN HM' hst hb1 hbel HW
      generalize inS s (wordB r ||| (BitVec.ofNat 64 n <<< 56)) = t at hst1 HE
      have ci := hst1.c2
      have fi := hst1.fr 2
      have H : StH (w1.setCell ⟨w.heap.size, 2, none⟩ (uV (t.c ^^^ 255#64))) w.heap.size 43 (⟨t.a, t.b, t.c ^^^ 255#64, t.d⟩ : Sip4) := hst1.set 2 _ rfl
      have e255 : bits .xor .u64 (t.c.toNat : Int) 255 = ((t.c ^^^ 255#64).toNat : Int) := c_xor t.c 255#64
      have HH := hide H
      have HB2 := hide HB1
      have HX := hide e255
      clear H HB1 hst1 e255
      go_wp2_with fail
      rw [HX.out]
      have hB3 := HB2.out.setCell (p := ⟨w.heap.size, 2, none⟩) (Nat.le_refl _) (Value.int IntKind.u64 ((t.c ^^^ 255#64).toNat : Int))
      have hS3 : StH (w1.setCell ⟨w.heap.size, 2, none⟩ (Value.int IntKind.u64 ((t.c ^^^ 255#64).toNat : Int))) w.heap.size 43 (⟨t.a, t.b, t.c ^^^ 255#64, t.d⟩ : Sip4) := HH.out
      generalize w1.setCell ⟨w.heap.size, 2, none⟩ (Value.int IntKind.u64 ((t.c ^^^ 255#64).toNat : Int)) = w3 at hB3 hS3 ⊢
      clear HH HB2 HX ci fi
      refine (rounds_any w3 w.heap.size 4 _ (by omega) hS3).mono ?_
      rintro e w4 ⟨rfl, hS4, hb4⟩
      have HB4 := hide (hB3.trans hb4)
      generalize roundsS 4 (⟨t.a, t.b, t.c ^^^ 255#64, t.d⟩ : Sip4) = u at hS4 HE
      have c0 := hS4.c0
      have c1 := hS4.c1
      have c2 := hS4.c2
      have c3 := hS4.c3
      clear hB3 hS3 hb4 hS4
      go_wp2
      go_ret
      exact ⟨ret_int (by rw [c_xor, c_xor, c_xor, HE.out]), HB4.out⟩
end Go.Proofs.Ytlcgciafclfoeaa
