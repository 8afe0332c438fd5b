import Derived.Test.YtjppmalcaogpiaaWx
import Derived.Deep.RegionHeld3
namespace Go.Proofs.Ytjppmalcaogpiaa
open Go.RowKit
set_option maxRecDepth 100000
attribute [local go_sem] ord_none_lt ord_none_gt ord_none_eq ord_none_ne ord_lt_lt ord_lt_gt ord_lt_eq ord_lt_ne ord_gt_lt ord_gt_gt ord_gt_eq ord_gt_ne ord_eq_lt ord_eq_gt ord_eq_eq ord_eq_ne store_fl unary_negF
theorem run_app_fls (w : World) (base ty : Nat) (l : List Nat) (B c : Nat) (A : Option Addr) (hb : FlS w B A l) (hnil : A = none → c = 0) (hlen : l.length ≤ 17592186043904) (hbase : base ≤ w.heap.size) :
    ∃ v' w', (Builtin.append_ #[28, 28] ty #[.slice none 0 0, .slice A l.length c]).run Try.prog w = .ok v' w' ∧ OwnR w' base 22 v' (l.map flV) ∧ w.grownBy w' none := by
  obtain ⟨i0, hi, hz0, hz1, hz2⟩ := info_parts info_fl
  have hown : w.ownsRow base 22 1 (.slice none 0 0) 0 [] := World.ownsRow_nil w base 22 1
  rcases A with _ | ad
  · have h0 : l = [] := by
      rcases l with _ | ⟨x, l⟩
      · rfl
      · obtain ⟨b, off, e, _⟩ := hb.2 (by simp)
        cases e
    subst h0
    obtain rfl := hnil rfl
    exact ⟨.slice none 0 0, w, run_append_owned_none (P := Try.prog) w base 28 ty 22 i0 1 Try.underlying28 hi _ 0 [] hown, OwnR.nil _ _ _, World.grownBy.refl w _⟩
  · have hnew : ∀ j u, (l.map flV)[j]? = some u → w.cell? (ad.add j) = some u := by
      intro j u hj
      obtain ⟨hjl, hju⟩ := List.getElem?_eq_some_iff.1 hj
      have hjl' : j < l.length := by simpa using hjl
      obtain ⟨b, off, e, _, hcell⟩ := hb.2 (by omega)
      cases e
      rw [add_none, hcell j hjl', ← hju]
      simp [flV]
    obtain ⟨v', w', hr, h2, h3, _⟩ := run_append_own (P := Try.prog) w base 28 ty 22 i0 _ 1 8 Try.underlying28 hi hz0 hz1 hz2 rfl (by omega) (.slice none 0 0) 0 [] hown ad l.length c (l.map flV) (by simp) hnew (flV_one l) (by unfold maxLen; omega) (by omega) hbase
    refine ⟨v', w', hr, ?_, h3⟩
    unfold OwnR
    rw [List.length_map]
    simpa using h2

theorem wpList_app_run {w w' : World} {ops : Array Oper} {rest : List Oper} {o : Oper} {a : Act} {Q : Exit → Act → World → Prop} (hgd : o.guard = none) (s x : Operand) (t : TypeId)
    (ho : o.op = .call { callee := .builtin .append, args := #[s, x], argTypes := #[t, t] }) {u v v' : Value} (hs : a.eval s = u) (hx : a.eval x = v) (hr : (Builtin.append_ #[t, t] o.type #[u, v]).run Try.prog w = .ok v' w')
    (h : wpList Try.prog ops Q rest (a.put o.dst v') w') : wpList Try.prog ops Q (o :: rest) a w := by
  refine wpList_plain hgd fun K hK => ?_
  unfold Oper.wp execOp
  simp only [ho, resolve, invoke, builtin, Sem.run_bind, Sem.run_pure, Result.andThen_ok, List.map_toArray, List.map_cons, List.map_nil, hs, hx, hr]
  exact hK _ _ h

theorem best_ge {l : List Nat} {j : Nat} (h : j < l.length) : clF l[j] ≤ bestF l := by
  have : ∀ (l : List Nat) (s : Nat), s ≤ l.foldl (fun s x => max s (clF x)) s ∧ ∀ x ∈ l, clF x ≤ l.foldl (fun s x => max s (clF x)) s := by
    intro l
    induction l with
    | nil => intro s; exact ⟨Nat.le_refl _, fun x hx => by cases hx⟩
    | cons a l ih =>
      intro s
      obtain ⟨h1, h2⟩ := ih (max s (clF a))
      refine ⟨Nat.le_trans (Nat.le_max_left _ _) h1, fun x hx => ?_⟩
      rcases List.mem_cons.1 hx with rfl | hx
      · exact Nat.le_trans (Nat.le_max_right _ _) h1
      · exact h2 x hx
  exact (this l 0).2 _ (List.getElem_mem h)
theorem lessB_ge {x y : Nat} (hx : x ≤ fI) (h : y ≤ x) : lessB x y = false := by
  unfold lessB
  have px : posF x = 2 * (x : Int) := by obtain ⟨h1, h2⟩ := pos_rs hx; unfold posF; rw [h1, h2, if_neg (by omega)]; rfl
  have py : posF y = 2 * (y : Int) := by obtain ⟨h1, h2⟩ := pos_rs (x := y) (by omega); unfold posF; rw [h1, h2, if_neg (by omega)]; rfl
  rw [px, py]; exact decide_eq_false (by omega)

set_option maxHeartbeats 4000000 in
theorem weightLists_any (A : Option Addr) (c : Nat) (l : List Nat) (w : World) (hl : l.length ≤ 17592186043904) (hnil : A = none → c = 0) (hb : FlS w w.heap.size A l) :
    Calls Try.prog 5 #[.slice A l.length c] w fun e w' => e = .returned (.bool true) ∧ Below w.heap.size w w' := by
  obtain ⟨v, w1, hrun, ho, hg⟩ := run_app_fls w w.heap.size 28 l _ c A hb hnil hl (Nat.le_refl _)
  have hB1 : Below w.heap.size w w1 := (Below.refl _ _).grown hg (Nat.le_refl _) (fun k hk => by cases hk)
  obtain ⟨Ao, co, hv, hfo⟩ := ho.fls hb.1
  subst hv
  have CB1 := hide (best_any Ao co l _ w1 (by omega) (Nat.le_refl _) hfo)
  have CS1 := hide (fun w2 (h : Below w1.heap.size w1 w2) => sum_any Ao co l _ w2 (by omega) h.size (hfo.below h (Nat.le_refl _)))
  have CB2 := hide (fun w2 (h : Below w.heap.size w w2) => refbest_any A c l _ w2 (by omega) (hb.below h (Nat.le_refl _)))
  have CS2 := hide (fun w2 (h : Below w.heap.size w w2) => refsum_any A c l _ w2 (by omega) (hb.below h (Nat.le_refl _)))
  obtain ⟨b, hbst⟩ : ∃ b, bestF l = b := ⟨_, rfl⟩
  obtain ⟨s, hsum⟩ : ∃ s, min (sumF l) fMost = s := ⟨_, rfl⟩
  have hsb : b ≤ s := by rw [← hbst, ← hsum]; exact bestF_le_sumF l
  have hM := fMost_I
  have hs1 : s ≤ fI := by rw [← hsum]; omega
  have KS := hide (fun w => lessW_any s b w (lt64 (by rw [← hsum]; omega)) (lt64 (by rw [← hbst]; exact bestF_lt l)))
  rw [lessB_ge hs1 hsb] at KS
  have KB := hide (fun w => refsame_any b b w (lt64 (by rw [← hbst]; exact bestF_lt l)) (lt64 (by rw [← hbst]; exact bestF_lt l)))
  have KSS := hide (fun w => refsame_any s s w (lt64 (by rw [← hsum]; omega)) (lt64 (by rw [← hsum]; omega)))
  rw [sameB_self] at KB KSS
  rw [hbst] at CB1 CB2
  rw [hsum] at CS1 CS2
  obtain ⟨n, hn⟩ : ∃ n, n = l.length := ⟨_, rfl⟩
  rw [← hn] at hrun CB1 CS1 CB2 CS2 hl ⊢
  have HB1 := hide hB1
  have HL := hide hn
  have HFO := hide hfo
  have HF := hide hb
  have HBST := hide hbst
  clear hsb hM hs1 hsum hbst hn hfo hb hB1 ho hg hnil
  have HRUN := hide hrun
  clear hrun
  go_enter Try.func5, Try.ntmps5
  go_wp2_with (first | (at_builtin; refine wpList_app_run rfl _ _ 28 rfl rfl rfl HRUN.out ?_) | fail)
  refine CB1.out.mono ?_
  rintro e w2 ⟨rfl, B2⟩
  have H2 := hide B2
  clear B2 HRUN
  go_wp2_with fail
  refine (CS1.out _ H2.out).mono ?_
  rintro e w3 ⟨rfl, B3⟩
  have H3 := hide (below_two H2.out B3)
  clear B3 H2 CS1 CB1
  have H3w : Hid (Below w.heap.size w w3) := hide (HB1.out.trans (H3.out.mono HB1.out.size))
  go_wp2_with fail
  refine (CB2.out _ H3w.out).mono ?_
  rintro e w4 ⟨rfl, rfl⟩
  go_wp2_with fail
  refine (KB.out _).mono ?_
  rintro e w4 ⟨rfl, rfl⟩
  go_wp2_with fail
  refine (CS2.out _ H3w.out).mono ?_
  rintro e w4 ⟨rfl, rfl⟩
  go_wp2_with fail
  refine (KSS.out _).mono ?_
  rintro e w4 ⟨rfl, rfl⟩
  go_wp2_with fail
  refine (KS.out _).mono ?_
  rintro e w4 ⟨rfl, rfl⟩
  clear KB KSS KS CB2 CS2
  have HFO3 : Hid (FlS w3 w1.heap.size Ao l) := hide (HFO.out.below H3.out (Nat.le_refl _))
  have HF3 : Hid (FlS w3 w.heap.size A l) := hide (HF.out.below H3w.out (Nat.le_refl _))
  have HZ1 : Hid (w.heap.size ≤ w1.heap.size) := hide HB1.out.size
  have HZ3 : Hid (w1.heap.size ≤ w3.heap.size) := hide H3.out.size
  go_wp2
  go_loopw [6] (fun v wr => ∃ j : Nat, j ≤ n ∧ v = .int .i64 (j : Int) ∧ Hid (Below w3.heap.size w3 wr)) (fun v _ => n - (intOf v).toNat)
  case atStart => exact ⟨0, by omega, rfl, hide (Below.refl _ _)⟩
  case round =>
    obtain ⟨j, hj, rfl, hbel⟩ := hrel
    by_cases hlt : j < n
    · have hz3 : w3.heap.size ≤ wr.heap.size := hbel.out.size
      have hz1 := HZ1.out
      have hz2 := HZ3.out
      obtain ⟨b1, o1, x, rfl, hb1, hx, hx64, hc1⟩ := (HFO3.out.below hbel.out HZ3.out).at (j := j) (by have := HL.out; omega)
      obtain ⟨b2, o2, x2, rfl, hb2, hx2, _, hc2⟩ := (HF3.out.below hbel.out (by omega)).at (j := j) (by have := HL.out; omega)
      obtain rfl : x2 = x := by rw [hx2, hx]
      obtain ⟨cx, hcx⟩ : ∃ y, clF x2 = y := ⟨_, rfl⟩
      have hcb : cx ≤ b := by rw [← hcx, ← HBST.out, hx]; exact best_ge _
      have hb64 : b ≤ fI := by rw [← HBST.out]; exact Nat.le_of_lt (bestF_lt l)
      have K1 := hide (fun w => refsame_any x2 x2 w hx64 hx64)
      have K2 := hide (fun w => clean_at x2 w hx64 hcx)
      have K3 := hide (fun w => lessW_any b cx w (by rw [fI_val] at hb64; omega) (by rw [fI_val] at hb64; omega))
      rw [sameB_self] at K1
      rw [lessB_ge hb64 hcb] at K3
      have HKEEP : Hid (∀ w', Below wr.heap.size wr w' → w'.cell? ⟨b1, o1 + j, none⟩ = some (.float .f64 x2) ∧ w'.cell? ⟨b2, o2 + j, none⟩ = some (.float .f64 x2)) :=
        hide fun w' h => ⟨(h.cell (by show b1 < _; omega)).trans hc1, (h.cell (by show b2 < _; omega)).trans hc2⟩
      have hji : (j : Int) < (n : Int) := by omega
      clear hx hx2 hx64 hcx hcb hb64 hz1 hz2 hb1 hb2 hz3
      go_wp2_with fail
      go_region_held3 (fun w' => w'.cell? ⟨b1, o1 + j, none⟩ = some (.float .f64 x2) ∧ w'.cell? ⟨b2, o2 + j, none⟩ = some (.float .f64 x2))
        (first | go_keep)
        (first | (go_at_call 12; (with_reducible refine (K1.out _).mono ?_); rintro e w4 ⟨rfl, rfl⟩) | (go_at_call 10; (with_reducible refine (K2.out _).mono ?_); rintro e w5 ⟨rfl, hb5⟩; have HB5 : Hid (Below wr.heap.size wr w5) := hide (belowW_undrew hb5); obtain ⟨p0, p1⟩ := HKEEP.out w5 HB5.out) | (go_at_call 17; (with_reducible refine (K3.out _).mono ?_); rintro e w6 ⟨rfl, rfl⟩))
      have HN : Hid (Below w3.heap.size w3 w5) := hide (hbel.out.trans (HB5.out.mono hbel.out.size))
      clear p0 p1 hc1 hc2
      go_wp2
      go_roundw
      case rel => exact ⟨j + 1, by omega, by go_num, HN⟩
      case measure => simp [intOf]; omega
    · obtain rfl : j = n := by omega
      go_wp2_with fail
      refine (knownW_any _).mono ?_
      rintro e w5 ⟨rfl, B5⟩
      have H5 : Hid (Below w.heap.size w w5) := by
        refine hide ?_
        have h1 := HZ1.out
        have h3 := HZ3.out
        have e1 : Below w.heap.size w wr := H3w.out.trans (hbel.out.mono (by omega))
        exact e1.trans (B5.mono e1.size)
      clear B5
      go_wp2
      go_ret
      exact ⟨rfl, H5.out⟩
end Go.Proofs.Ytjppmalcaogpiaa
