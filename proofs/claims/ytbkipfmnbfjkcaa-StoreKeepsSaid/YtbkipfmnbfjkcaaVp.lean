/-
  Words for stores: keys of its two maps, a pin's cells, a store in the memory.
-/
import Derived.Test.YtbkipfmnbfjkcaaVi
import Derived.Test.YtbkipfmnbfjkcaaMg
import Derived.Test.YtbkipfmnbfjkcaaTue
namespace Go.Proofs.Ytbkipfmnbfjkcaa
open Go.RowKit
set_option maxRecDepth 100000
set_option linter.unusedVariables false
set_option linter.unusedSimpArgs false

instance : DecidableEq Tup := fun a b => decidable_of_iff (sameT a b = true) (sameT_iff a b)
/-- a tuple whose addresses have sixteen bytes each: as all have. -/
abbrev TK := {t : Tup // t.sb.length = 16 ∧ t.db.length = 16}
def tupA (k : TK) : Array Value := (tupL k.1).toArray
theorem tupA_tu (k : TK) : TuV (tupA k) k.1 := ⟨rfl, k.2.1, k.2.2⟩
def encT (k : TK) : Value := .agg (tupA k)
theorem sameBits_cells : ∀ (l : List Value), (∀ v ∈ l, ∀ n, Instr.sameBits n v v = true) → ∀ n, (l.zip l).all (fun x => Instr.sameBits n x.1 x.2) = true
  | [], _, n => rfl
  | a :: t, h, n => by
    rw [List.zip_cons_cons, List.all_cons, sameBits_cells t (fun v hv => h v (List.mem_cons_of_mem _ hv)) n, h a List.mem_cons_self n]; rfl
theorem sameBits_int (k : IntKind) (x : Int) (n : Nat) : Instr.sameBits n (.int k x) (.int k x) = true := by cases n <;> simp [Instr.sameBits]
theorem sameBits_bool (x : Bool) (n : Nat) : Instr.sameBits n (.bool x) (.bool x) = true := by cases n <;> simp [Instr.sameBits]
theorem sameBits_agg (X : Array Value) (h : ∀ v ∈ X.toList, ∀ n, Instr.sameBits n v v = true) (n : Nat) : Instr.sameBits (n + 1) (.agg X) (.agg X) = true := by
  unfold Instr.sameBits
  have := sameBits_cells X.toList h n
  simp only [beq_self_eq_true, Bool.true_and]
  exact this
theorem tupL_bits (t : Tup) : ∀ v ∈ tupL t, ∀ n, Instr.sameBits n v v = true := by
  intro v hv n
  have had : ∀ (b : Bool) (l : List UInt8), v ∈ adL b l → Instr.sameBits n v v = true := fun b l h => by
    rcases List.mem_cons.1 h with rfl | h
    · exact sameBits_bool _ _
    · obtain ⟨u, _, rfl⟩ := List.mem_map.1 h
      exact sameBits_int _ _ _
  unfold tupL at hv
  rcases List.mem_append.1 hv with h | h
  · exact had _ _ h
  rcases List.mem_append.1 h with h | h
  · exact had _ _ h
  · simp at h
    rcases h with rfl | rfl | rfl <;> exact sameBits_int _ _ _
theorem chk_tup (em : Bool) (w : World) (sv dv : Bool) (p s d : Int) (a0 a1 a2 a3 a4 a5 a6 a7 a8 a9 a10 a11 a12 a13 a14 a15 b0 b1 b2 b3 b4 b5 b6 b7 b8 b9 b10 b11 b12 b13 b14 b15 : UInt8) :
    (Instr.checkKey em 10000 63 (.agg (tupL ⟨sv, [a0, a1, a2, a3, a4, a5, a6, a7, a8, a9, a10, a11, a12, a13, a14, a15], dv, [b0, b1, b2, b3, b4, b5, b6, b7, b8, b9, b10, b11, b12, b13, b14, b15], p, s, d⟩).toArray)).run Try.prog w = .ok () w := by kernel_rfl
theorem list16 {α : Type} (l : List α) (h : l.length = 16) : ∃ a0 a1 a2 a3 a4 a5 a6 a7 a8 a9 a10 a11 a12 a13 a14 a15, l = [a0, a1, a2, a3, a4, a5, a6, a7, a8, a9, a10, a11, a12, a13, a14, a15] := by
  match l, h with
  | [_, _, _, _, _, _, _, _, _, _, _, _, _, _, _, _], _ => exact ⟨_, _, _, _, _, _, _, _, _, _, _, _, _, _, _, _, rfl⟩
theorem keyT : KeyLaw Try.prog 63 encT where
  chk := fun k em w => by
    obtain ⟨⟨sv, sb, dv, db, p, s, d⟩, h1, h2⟩ := k
    obtain ⟨a0, a1, a2, a3, a4, a5, a6, a7, a8, a9, a10, a11, a12, a13, a14, a15, rfl⟩ := list16 sb h1
    obtain ⟨b0, b1, b2, b3, b4, b5, b6, b7, b8, b9, b10, b11, b12, b13, b14, b15, rfl⟩ := list16 db h2
    exact chk_tup em w _ _ _ _ _ _ _ _ _ _ _ _ _ _ _ _ _ _ _ _ _ _ _ _ _ _ _ _ _ _ _ _ _ _ _ _ _
  eq := fun a b w => by
    have := equalIn_tu 9995 w (tupA a) (tupA b) a.1 b.1 (tupA_tu a) (tupA_tu b)
    have e : sameT a.1 b.1 = decide (a = b) := by
      rw [Bool.eq_iff_iff, sameT_iff, decide_eq_true_eq]
      exact ⟨fun h => Subtype.ext h, fun h => by rw [h]⟩
    rw [← e]
    exact this
  wide := by kernel_rfl
  stay := fun k => sameBits_agg _ (fun v hv n => tupL_bits k.1 v (by simpa [tupA] using hv) n) 9999
theorem keyLaw_inj {κ : Type} [DecidableEq κ] {kt : TypeId} {enc : κ → Value} (H : KeyLaw Try.prog kt enc) (w : World) (a b : κ) (h : enc a = enc b) : a = b := by
  have h1 := H.eq a b w
  have h2 := H.eq a a w
  rw [← h] at h1
  rw [h1] at h2
  simpa using h2
/-- a backend of a Gen, as a key. -/
def encC (k : Int × Int) : Value := .agg #[.int .i64 k.1, .int .i64 k.2]
theorem chk_com (em : Bool) (w : World) (a b : Int) : (Instr.checkKey em 10000 101 (.agg #[.int .i64 a, .int .i64 b])).run Try.prog w = .ok () w := by kernel_rfl
theorem com_fields : (Try.prog.fieldsOf 101).toList.map (fun f => (f.type, f.offset, f.name)) = [(3, 0, "backend"), (2, 1, "gen")] := by kernel_rfl
theorem com_under : Try.prog.underlying 101 = some (.struct (Try.prog.fieldsOf 101)) := by kernel_rfl
theorem com_held : Try.prog.stoodInHeld 101 = false := by kernel_rfl
theorem list_twoV {α β : Type} {g : α → β} {a b : β} : ∀ {L : List α}, L.map g = [a, b] → ∃ x y, L = [x, y] ∧ g x = a ∧ g y = b
  | [x, y], h => by simp at h; exact ⟨x, y, rfl, h⟩
  | [], h => by simp at h
  | [_], h => by simp at h
  | _ :: _ :: _ :: _, h => by simp at h
theorem equalIn_com (d : Nat) (w : World) (s i t j : Int) : (Op.equalIn (d + 5) 101 (.agg #[.int .i64 s, .int .i64 i]) (.agg #[.int .i64 t, .int .i64 j])).run Try.prog w = .ok (s == t && i == j) w := by
  rw [run_equalIn_struct w (d + 4) 101 _ _ com_under com_held]
  obtain ⟨f0, f1, hfs, e0, e1⟩ := list_twoV com_fields
  rw [hfs]
  simp only [Prod.mk.injEq] at e0 e1
  obtain ⟨t0, o0, n0⟩ := e0
  obtain ⟨t1, o1, n1⟩ := e1
  simp only [Op.eqFields, t0, o0, n0, t1, o1, n1]
  rw [if_pos (by decide), if_pos (by decide)]
  have E0 := run_equalIn_int (P := Try.prog) w (d + 3) 3 .i64 .i64 s t Try.underlying3
  have E1 := run_equalIn_int (P := Try.prog) w (d + 3) 2 .i64 .i64 i j Try.underlying2
  have a0 := pt_intV 3 .i64 Try.underlying3 #[.int .i64 s, .int .i64 i] 0 s rfl w
  have b0 := pt_intV 3 .i64 Try.underlying3 #[.int .i64 t, .int .i64 j] 0 t rfl w
  have a1 := pt_intV 2 .i64 Try.underlying2 #[.int .i64 s, .int .i64 i] 1 i rfl w
  have b1 := pt_intV 2 .i64 Try.underlying2 #[.int .i64 t, .int .i64 j] 1 j rfl w
  simp only [Sem.run_bind, a0, b0, Result.andThen_ok, E0]
  cases (s == t)
  · simp
  · simp only [Bool.not_true, Bool.false_eq_true, if_false, Bool.true_and, Sem.run_bind, a1, b1, Result.andThen_ok, E1]
    cases (i == j) <;> simp
theorem keyC : KeyLaw Try.prog 101 encC where
  chk := fun k em w => chk_com em w k.1 k.2
  eq := fun a b w => by
    obtain ⟨a1, a2⟩ := a
    obtain ⟨b1, b2⟩ := b
    have := equalIn_com 9995 w a1 a2 b1 b2
    have e : (a1 == b1 && a2 == b2) = decide ((a1, a2) = (b1, b2)) := by
      rw [Bool.eq_iff_iff]; simp
    rw [← e]
    exact this
  wide := by kernel_rfl
  stay := fun k => sameBits_agg _ (fun v hv n => by simp at hv; rcases hv with rfl | rfl <;> exact sameBits_int _ _ _) 9999

/-! pins -/
structure PinR where
  t : TK
  b : Int
  g : Int
  f : Flw
def pinL (q : PinR) : List Value := tupL q.t.1 ++ [.int .i64 q.b, .int .i64 q.g, .int .i64 q.f.p, .int .i64 q.f.s, .int .i64 q.f.l]
def pinA (q : PinR) : Array Value := (pinL q).toArray
theorem tupL_len (k : TK) : (tupL k.1).length = 37 := by have := (tupA_tu k).size; simpa [tupA] using this
theorem pin_size (q : PinR) : (pinA q).size = 42 := by simp [pinA, pinL, tupL_len]
theorem pin_x (q : PinR) : (pinA q).extract 0 42 = pinA q := by rw [← pin_size q]; simp
theorem tup_x (k : TK) : (tupA k).extract 0 37 = tupA k := (tupA_tu k).x0
theorem tup_size (k : TK) : (tupA k).size = 37 := (tupA_tu k).size
theorem tup_one (k : TK) : allOne (tupA k) = true := (tupA_tu k).one
theorem pin_one (q : PinR) : allOne (pinA q) = true := by
  refine all_oneCell_toArray fun u hu => ?_
  rcases List.mem_append.1 hu with hu | hu
  · have := tup_one q.t
    unfold allOne tupA at this
    rw [Array.all_eq_true] at this
    obtain ⟨i, hi, rfl⟩ := List.getElem_of_mem hu
    have h := this i (by simpa using hi)
    rw [List.getElem_toArray] at h
    exact h
  · simp at hu
    rcases hu with rfl | rfl | rfl | rfl | rfl <;> rfl
theorem pin_tup (q : PinR) : (pinA q).extract 0 37 = tupA q.t := by
  unfold pinA tupA pinL
  rw [List.extract_toArray]
  congr 1
  rw [List.extract_eq_take_drop, List.drop_zero, List.take_append_of_le_length (by rw [tupL_len]; omega), List.take_of_length_le (by rw [tupL_len]; omega)]
theorem pin_flow (q : PinR) : (pinA q).extract 39 42 = flA q.f := by
  unfold pinA flA pinL
  rw [List.extract_toArray, List.extract_eq_take_drop, List.drop_append, List.drop_of_length_le (by rw [tupL_len]; omega), tupL_len]
  rfl
theorem pin_at (q : PinR) : (pinA q)[37]? = some (.int .i64 q.b) ∧ (pinA q)[38]? = some (.int .i64 q.g) := by
  unfold pinA pinL
  simp only [List.getElem?_toArray]
  constructor
  · rw [List.getElem?_append_right (by rw [tupL_len]; omega), tupL_len]; rfl
  · rw [List.getElem?_append_right (by rw [tupL_len]; omega), tupL_len]; rfl
def tkZ : TK := ⟨⟨false, List.replicate 16 0, false, List.replicate 16 0, 0, 0, 0⟩, by simp, by simp⟩
def pinZ : PinR := ⟨tkZ, 0, 0, fl0⟩
theorem tkZ_lit : #[Value.bool false, .int .u8 0, .int .u8 0, .int .u8 0, .int .u8 0, .int .u8 0, .int .u8 0, .int .u8 0, .int .u8 0, .int .u8 0, .int .u8 0, .int .u8 0, .int .u8 0, .int .u8 0, .int .u8 0, .int .u8 0, .int .u8 0, .bool false, .int .u8 0, .int .u8 0, .int .u8 0, .int .u8 0, .int .u8 0, .int .u8 0, .int .u8 0, .int .u8 0, .int .u8 0, .int .u8 0, .int .u8 0, .int .u8 0, .int .u8 0, .int .u8 0, .int .u8 0, .int .u8 0, .int .i64 0, .int .i64 0, .int .i64 0] = tupA tkZ := by rfl
theorem pinZ_lit : #[Value.bool false, .int .u8 0, .int .u8 0, .int .u8 0, .int .u8 0, .int .u8 0, .int .u8 0, .int .u8 0, .int .u8 0, .int .u8 0, .int .u8 0, .int .u8 0, .int .u8 0, .int .u8 0, .int .u8 0, .int .u8 0, .int .u8 0, .bool false, .int .u8 0, .int .u8 0, .int .u8 0, .int .u8 0, .int .u8 0, .int .u8 0, .int .u8 0, .int .u8 0, .int .u8 0, .int .u8 0, .int .u8 0, .int .u8 0, .int .u8 0, .int .u8 0, .int .u8 0, .int .u8 0, .int .i64 0, .int .i64 0, .int .i64 0, .int .i64 0, .int .i64 0, .int .i64 0, .int .i64 0, .int .i64 0] = pinA pinZ := by rfl
theorem rs_Pin : rowSize Try.prog 66 = some 42 := by kernel_rfl
theorem rs_Com : rowSize Try.prog 101 = some 2 := by kernel_rfl
theorem rs_Sto : rowSize Try.prog 95 = some 3 := by kernel_rfl
theorem rs_Que : rowSize Try.prog 105 = some 2 := by kernel_rfl
theorem built_pin0 : Try.prog.built 66 [] = some (pinA pinZ) := by kernel_rfl
theorem built_com (a b : Int) : Try.prog.built 101 [(0, .int .i64 a), (1, .int .i64 b)] = some #[.int .i64 a, .int .i64 b] := by kernel_rfl
theorem info_pin : (Try.prog.info? 66).map (·.size) = some 42 := by kernel_rfl
theorem zero_pin (w : World) : (zeroValue 66).run Try.prog w = .ok (.agg (pinA pinZ)) w := by kernel_rfl
theorem zero_i64V (w : World) : (zeroValue 2).run Try.prog w = .ok (.int .i64 0) w := by kernel_rfl
theorem built_pin16 (sv dv : Bool) (p s d b g fp fs fl : Int) (a0 a1 a2 a3 a4 a5 a6 a7 a8 a9 a10 a11 a12 a13 a14 a15 b0 b1 b2 b3 b4 b5 b6 b7 b8 b9 b10 b11 b12 b13 b14 b15 : UInt8) :
    Try.prog.built 66 [(0, .agg (tupL ⟨sv, [a0, a1, a2, a3, a4, a5, a6, a7, a8, a9, a10, a11, a12, a13, a14, a15], dv, [b0, b1, b2, b3, b4, b5, b6, b7, b8, b9, b10, b11, b12, b13, b14, b15], p, s, d⟩).toArray), (1, .int .i64 b), (2, .int .i64 g), (3, .agg #[.int .i64 fp, .int .i64 fs, .int .i64 fl])]
      = some (tupL ⟨sv, [a0, a1, a2, a3, a4, a5, a6, a7, a8, a9, a10, a11, a12, a13, a14, a15], dv, [b0, b1, b2, b3, b4, b5, b6, b7, b8, b9, b10, b11, b12, b13, b14, b15], p, s, d⟩ ++ [Value.int .i64 b, .int .i64 g, .int .i64 fp, .int .i64 fs, .int .i64 fl]).toArray := by kernel_rfl
theorem built_pin (t : TK) (b g : Int) (f : Flw) : Try.prog.built 66 [(0, .agg (tupA t)), (1, .int .i64 b), (2, .int .i64 g), (3, .agg (flA f))] = some (pinA ⟨t, b, g, f⟩) := by
  obtain ⟨⟨sv, sb, dv, db, p, s, d⟩, h1, h2⟩ := t
  obtain ⟨a0, a1, a2, a3, a4, a5, a6, a7, a8, a9, a10, a11, a12, a13, a14, a15, rfl⟩ := list16 sb h1
  obtain ⟨b0, b1, b2, b3, b4, b5, b6, b7, b8, b9, b10, b11, b12, b13, b14, b15, rfl⟩ := list16 db h2
  exact built_pin16 _ _ _ _ _ _ _ _ _ _ _ _ _ _ _ _ _ _ _ _ _ _ _ _ _ _ _ _ _ _ _ _ _ _ _ _ _ _ _ _ _ _
end Go.Proofs.Ytbkipfmnbfjkcaa
