/-
  The walks of the Reader's pieces: skip, zero, rest.
-/
import Derived.Test.YtgbmamahkpkdfaaPc
import Derived.Deep.RegionWith
namespace Go.Proofs.Ytgbmamahkpkdfaa
open Go.RowKit
set_option maxRecDepth 100000

theorem wrap_in (n : Int) (h1 : -9223372036854775808 ≤ n) (h2 : n ≤ 9223372036854775807) : IntKind.i64.wrap n = n := by rw [IntKind.wrap_i64]; omega

set_option maxHeartbeats 1000000 in
theorem skip_ok (w : World) (g : Nat) (A : Option Addr) (l : List UInt8) (c k : Nat) (er : Int) (h : Rd w g A l.length c k er) (m : Nat) (hl : l.length ≤ c) (hn : l.length ≤ 140737488355328) (hk : k + m ≤ l.length) (hb : Byt w g A l) :
    Calls Try.prog 75 #[.pointer (some ⟨g, 0, none⟩), .int .i64 (m : Int)] w fun e w' => e = .returned (.tuple #[]) ∧ Rd w' g A l.length c (k + m) er ∧ w.grownBy w' (some g) := by
  have h1 := h.c1
  have hf1 := h.fr 1
  have hwr := wrap_in ((k : Int) + (m : Int)) (by omega) (by omega)
  have post : ∀ (n : Nat), Rd ((w.drewN n).setCell ⟨g, 1, none⟩ (.int .i64 ((k : Int) + (m : Int)))) g A l.length c (k + m) er ∧ w.grownBy ((w.drewN n).setCell ⟨g, 1, none⟩ (.int .i64 ((k : Int) + (m : Int)))) (some g) := fun n => by
    have hR' := (h.drewN n).setK (k + m)
    have hg' : w.grownBy ((w.drewN n).setCell ⟨g, 1, none⟩ (.int .i64 ((k + m : Nat) : Int))) (some g) := grown_of_drewN (n := n) (grown_set _ g 1 _)
    rw [show (((k + m : Nat)) : Int) = (k : Int) + (m : Int) from by omega] at hR' hg'
    exact ⟨hR', hg'⟩
  have POST := hide post
  clear post
  go_enter Try.func75, Try.ntmps75
  go_region_with (go_at_call 117; refine (ahead_ok _ g g A l c k er (by exact ⟨h.blk⟩) m hl hn hk (by exact hb)).mono ?_; rintro e w1 ⟨⟨A', c', rfl, hmc, hby⟩, q, rfl⟩)
  all_goals go_end0
  all_goals exact ⟨rfl, POST.out _⟩

set_option maxHeartbeats 1000000 in
theorem skip_neg (w : World) (g : Nat) (A : Option Addr) (n c k : Nat) (er : Int) (h : Rd w g A n c k er) (m : Int) (hm : m < 0) :
    Calls Try.prog 75 #[.pointer (some ⟨g, 0, none⟩), .int .i64 m] w fun e w' => e = giveUp 1 ∧ ∃ q, w' = w.drewN q := by
  have h1 := h.c1
  go_enter Try.func75, Try.ntmps75
  refine wp_region_any (by kernel_rfl) ?_
  try (change wpAny _ _ _ _ _ _ _ (World.drew _))
  refine wpAny_take (i := 0) (v := ?v0) rfl (by kernel_rfl) (by kernel_rfl) (by kernel_rfl) (fun _ _ _ h => h) (Or.inl ⟨by rfl, ?h0⟩) ?r0
  case h0 => (intro w; go_simp; try with_reducible rfl)
  refine wpAny_take (i := 4) (v := ?v4) rfl (by kernel_rfl) (by kernel_rfl) (by kernel_rfl) (fun _ _ _ h => h) (Or.inl ⟨by rfl, ?h4⟩) ?r4
  case h4 => (intro w; go_simp; try with_reducible rfl)
  refine wpAny_take (i := 5) (v := ?v5) rfl (by kernel_rfl) (by kernel_rfl) (by kernel_rfl) (fun _ _ _ h => h) (Or.inl ⟨by rfl, ?h5⟩) ?r5
  case h5 => (intro w; go_simp; try with_reducible rfl)
  refine wpAny_take (i := 1) (v := ?v1) rfl (by kernel_rfl) (by kernel_rfl) (by kernel_rfl) (fun _ _ _ h => h) (Or.inl ⟨by rfl, ?h1⟩) ?r1
  case h1 => (intro w; go_simp; try with_reducible rfl)
  refine wpAny_take (i := 2) (v := ?v2) rfl (by kernel_rfl) (by kernel_rfl) (by kernel_rfl) (fun _ _ _ h => h) (Or.inl ⟨by rfl, ?h2⟩) ?r2
  case h2 => (intro w; go_simp; try with_reducible rfl)
  refine wpAny_ready (rs := [3, 6]) (by kernel_rfl) (by simp) ?_
  refine AllReady.cons rfl (fun K hK => ?_) ?_
  · go_simp
    refine hK _ _ ?_
    clear hK K
    refine wpAny_ready (rs := [6]) (by kernel_rfl) (by simp) ?_
    refine AllReady.cons rfl (fun K hK => ?_) AllReady.nil
    go_simp
    go_wp2_with (go_at_call 117; refine (ahead_neg _ g m hm).mono ?_; rintro e w1 ⟨rfl, rfl⟩; exact ⟨rfl, rfl, 1, rfl⟩)
  · refine AllReady.cons rfl (fun K hK => ?_) AllReady.nil
    go_simp
    go_wp2_with (go_at_call 117; refine (ahead_neg _ g m hm).mono ?_; rintro e w1 ⟨rfl, rfl⟩; exact ⟨rfl, rfl, 1, rfl⟩)

set_option maxHeartbeats 1000000 in
theorem skip_short (w : World) (g : Nat) (A : Option Addr) (n c k : Nat) (er : Int) (h : Rd w g A n c k er) (m : Int) (hm : 0 ≤ m) (hn : n ≤ 140737488355328) (hk : k ≤ n) (hs : (n : Int) - k < m) :
    Calls Try.prog 75 #[.pointer (some ⟨g, 0, none⟩), .int .i64 m] w fun e w' => e = giveUp 10 ∧ ∃ q, w' = w.drewN q := by
  have h1 := h.c1
  go_enter Try.func75, Try.ntmps75
  refine wp_region_any (by kernel_rfl) ?_
  try (change wpAny _ _ _ _ _ _ _ (World.drew _))
  refine wpAny_take (i := 0) (v := ?v0) rfl (by kernel_rfl) (by kernel_rfl) (by kernel_rfl) (fun _ _ _ h => h) (Or.inl ⟨by rfl, ?h0⟩) ?r0
  case h0 => (intro w; go_simp; try with_reducible rfl)
  refine wpAny_take (i := 4) (v := ?v4) rfl (by kernel_rfl) (by kernel_rfl) (by kernel_rfl) (fun _ _ _ h => h) (Or.inl ⟨by rfl, ?h4⟩) ?r4
  case h4 => (intro w; go_simp; try with_reducible rfl)
  refine wpAny_take (i := 5) (v := ?v5) rfl (by kernel_rfl) (by kernel_rfl) (by kernel_rfl) (fun _ _ _ h => h) (Or.inl ⟨by rfl, ?h5⟩) ?r5
  case h5 => (intro w; go_simp; try with_reducible rfl)
  refine wpAny_take (i := 1) (v := ?v1) rfl (by kernel_rfl) (by kernel_rfl) (by kernel_rfl) (fun _ _ _ h => h) (Or.inl ⟨by rfl, ?h1⟩) ?r1
  case h1 => (intro w; go_simp; try with_reducible rfl)
  refine wpAny_take (i := 2) (v := ?v2) rfl (by kernel_rfl) (by kernel_rfl) (by kernel_rfl) (fun _ _ _ h => h) (Or.inl ⟨by rfl, ?h2⟩) ?r2
  case h2 => (intro w; go_simp; try with_reducible rfl)
  refine wpAny_ready (rs := [3, 6]) (by kernel_rfl) (by simp) ?_
  refine AllReady.cons rfl (fun K hK => ?_) ?_
  · go_simp
    refine hK _ _ ?_
    clear hK K
    refine wpAny_ready (rs := [6]) (by kernel_rfl) (by simp) ?_
    refine AllReady.cons rfl (fun K hK => ?_) AllReady.nil
    go_simp
    go_wp2_with (go_at_call 117; refine (ahead_short _ g A n c k er (by exact ⟨h.blk⟩) m hm hn hk hs).mono ?_; rintro e w1 ⟨rfl, q, rfl⟩; exact ⟨rfl, rfl, 1 + q, World.drewN_drewN w 1 q⟩)
  · refine AllReady.cons rfl (fun K hK => ?_) AllReady.nil
    go_simp
    go_wp2_with (go_at_call 117; refine (ahead_short _ g A n c k er (by exact ⟨h.blk⟩) m hm hn hk hs).mono ?_; rintro e w1 ⟨rfl, q, rfl⟩; exact ⟨rfl, rfl, 1 + q, World.drewN_drewN w 1 q⟩)
end Go.Proofs.Ytgbmamahkpkdfaa
