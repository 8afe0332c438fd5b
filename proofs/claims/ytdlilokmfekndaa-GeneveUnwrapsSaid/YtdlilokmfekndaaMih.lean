import Derived.Test.YtdlilokmfekndaaMad
import Derived.Test.YtdlilokmfekndaaMla
import Derived.Test.YtdlilokmfekndaaMrd
import Derived.Test.YtdlilokmfekndaaLent
import Derived.Test.YtdlilokmfekndaaSumsA
import Derived.Laws.CopyOwn
section
/-
  Words for packets: the cells of one; and the walks of what it is asked: how long its head is, can it be.
-/
namespace Go.Proofs.Ytdlilokmfekndaa
open Go.RowKit
attribute [local go_sem ↓] exec_span exec_put exec_build heap_alloc_new heap_old
attribute [local go_sem] spanQ_ptr spanC_some heap_of_drew heap_of_drewN rs_arr rs_ad putAt_ptr putOk_ptr oldOk_some built_none World.setRow_alloc_new
set_option maxRecDepth 100000
set_option linter.unusedVariables false
set_option linter.unusedSimpArgs false

/-- what a packet is (its lists by where they lie). -/
structure Ip where
  v : Bool
  sv : Bool
  sb : List UInt8
  dv : Bool
  db : List UInt8
  p : Int
  ttl : Int
  tos : Int
  id : Int
  df : Bool
  lab : Int
  ao : Option Addr
  no : Nat
  co : Nat
  ad : Option Addr
  nd : Nat
  cd : Nat
def ipT (h : Ip) : List Value := [.int .i64 h.p, .int .i64 h.ttl, .int .i64 h.tos, .int .i64 h.id, .bool h.df, .int .i64 h.lab, .slice h.ao h.no h.co, .slice h.ad h.nd h.cd]
def ipL (h : Ip) : List Value := .bool h.v :: (adL h.sv h.sb ++ (adL h.dv h.db ++ ipT h))
structure IpV (X : Array Value) (h : Ip) : Prop where
  eq : X = (ipL h).toArray
  ls : h.sb.length = 16
  ld : h.db.length = 16
theorem lenI_adL {v : Bool} {l : List UInt8} (h : l.length = 16) : (adL v l).length = 17 := by simp [adL, h]
theorem IpV.size {X : Array Value} {h : Ip} (x : IpV X h) : X.size = 43 := by rw [x.eq]; simp [ipL, ipT, lenI_adL x.ls, lenI_adL x.ld]
theorem IpV.x0 {X : Array Value} {h : Ip} (x : IpV X h) : X.extract 0 43 = X := by rw [← x.size]; simp
theorem IpV.one {X : Array Value} {h : Ip} (x : IpV X h) : allOne X = true := by
  have e1 : ∀ (v : Bool) (l : List UInt8), ∀ u ∈ adL v l, u.oneCell' = true := fun v l u hu => by
    rcases List.mem_cons.1 hu with rfl | hu
    · rfl
    · exact byteV_one l u hu
  rw [x.eq]
  refine all_oneCell_toArray fun u hu => ?_
  rcases List.mem_cons.1 hu with rfl | hu
  · rfl
  · rcases List.mem_append.1 hu with hu | hu
    · exact e1 _ _ u hu
    · rcases List.mem_append.1 hu with hu | hu
      · exact e1 _ _ u hu
      · simp [ipT] at hu
        rcases hu with rfl | rfl | rfl | rfl | rfl | rfl | rfl | rfl <;> rfl
/-- its parts. -/
theorem IpV.src {X : Array Value} {h : Ip} (x : IpV X h) : X.extract 1 18 = (adL h.sv h.sb).toArray := by
  rw [x.eq, List.extract_toArray]
  congr 1
  simp only [ipL, List.extract_eq_take_drop, List.drop_succ_cons, List.drop_zero]
  rw [List.take_append_of_le_length (by rw [lenI_adL x.ls]; decide), List.take_of_length_le (by rw [lenI_adL x.ls]; decide)]
theorem IpV.dst {X : Array Value} {h : Ip} (x : IpV X h) : X.extract 18 35 = (adL h.dv h.db).toArray := by
  rw [x.eq, List.extract_toArray]
  congr 1
  simp only [ipL, List.extract_eq_take_drop, List.drop_succ_cons]
  rw [List.drop_append_of_le_length (by rw [lenI_adL x.ls]; decide), List.drop_of_length_le (by rw [lenI_adL x.ls]; decide), List.nil_append, List.take_append_of_le_length (by rw [lenI_adL x.ld]; decide), List.take_of_length_le (by rw [lenI_adL x.ld]; decide)]
theorem IpV.get {X : Array Value} {h : Ip} (x : IpV X h) (i : Nat) : X[35 + i]? = (ipT h)[i]? := by
  rw [x.eq]
  simp only [List.getElem?_toArray, ipL]
  rw [show 35 + i = (34 + i) + 1 by omega, List.getElem?_cons_succ, List.getElem?_append_right (by rw [lenI_adL x.ls]; omega), lenI_adL x.ls, List.getElem?_append_right (by rw [lenI_adL x.ld]; omega), lenI_adL x.ld]
  congr 1; omega
/-- what a walk asks of a packet's block. -/
structure IpC (w : World) (g : Nat) (h : Ip) : Prop where
  c0 : w.cell? ⟨g, 0, none⟩ = some (.bool h.v)
  c1 : w.cell? ⟨g, 1, none⟩ = some (.bool h.sv)
  c18 : w.cell? ⟨g, 18, none⟩ = some (.bool h.dv)
  c35 : w.cell? ⟨g, 35, none⟩ = some (.int .i64 h.p)
  c36 : w.cell? ⟨g, 36, none⟩ = some (.int .i64 h.ttl)
  c37 : w.cell? ⟨g, 37, none⟩ = some (.int .i64 h.tos)
  c38 : w.cell? ⟨g, 38, none⟩ = some (.int .i64 h.id)
  c39 : w.cell? ⟨g, 39, none⟩ = some (.bool h.df)
  c40 : w.cell? ⟨g, 40, none⟩ = some (.int .i64 h.lab)
  c41 : w.cell? ⟨g, 41, none⟩ = some (.slice h.ao h.no h.co)
  c42 : w.cell? ⟨g, 42, none⟩ = some (.slice h.ad h.nd h.cd)
theorem IpV.cells {X : Array Value} {h : Ip} (x : IpV X h) {w : World} {g : Nat} {ty : TypeId} (hg : w.heap[g]? = some (.cells X ty (0, 0))) : IpC w g h := by
  have hc := fun i => cell_of_row w g i X ty (0, 0) hg
  have hg' := fun i => (hc (35 + i)).trans (x.get i)
  have e0 : X[0]? = some (.bool h.v) := by rw [x.eq]; rfl
  have e1 : X[1]? = some (.bool h.sv) := by rw [x.eq]; rfl
  have e18 : X[18]? = some (.bool h.dv) := by
    rw [x.eq]
    simp only [List.getElem?_toArray, ipL]
    rw [List.getElem?_cons_succ, List.getElem?_append_right (by rw [lenI_adL x.ls]; omega), lenI_adL x.ls]; rfl
  exact ⟨(hc 0).trans e0, (hc 1).trans e1, (hc 18).trans e18, hg' 0, hg' 1, hg' 2, hg' 3, hg' 4, hg' 5, hg' 6, hg' 7⟩
theorem IpV.bytS {X : Array Value} {h : Ip} (x : IpV X h) {w : World} {g : Nat} {ty : TypeId} {B : Nat} (hg : w.heap[g]? = some (.cells X ty (0, 0))) (hB : g < B) : Byt w B (some ⟨g, 2, none⟩) h.sb := fun _ =>
  ⟨g, 2, rfl, hB, fun i hi => by
    rw [cell_of_row w g (2 + i) X ty (0, 0) hg, x.eq]
    simp only [List.getElem?_toArray, ipL]
    rw [show 2 + i = (1 + i) + 1 by omega, List.getElem?_cons_succ, List.getElem?_append_left (by rw [lenI_adL x.ls]; have := x.ls; omega), Nat.add_comm 1]
    simp [adL, byteV, hi]⟩
theorem IpV.bytD {X : Array Value} {h : Ip} (x : IpV X h) {w : World} {g : Nat} {ty : TypeId} {B : Nat} (hg : w.heap[g]? = some (.cells X ty (0, 0))) (hB : g < B) : Byt w B (some ⟨g, 19, none⟩) h.db := fun _ =>
  ⟨g, 19, rfl, hB, fun i hi => by
    rw [cell_of_row w g (19 + i) X ty (0, 0) hg, x.eq]
    simp only [List.getElem?_toArray, ipL]
    rw [show 19 + i = (18 + i) + 1 by omega, List.getElem?_cons_succ, List.getElem?_append_right (by rw [lenI_adL x.ls]; omega), lenI_adL x.ls, List.getElem?_append_left (by rw [lenI_adL x.ld]; have := x.ld; omega), show 18 + i - 17 = i + 1 by omega]
    simp [adL, byteV, hi]⟩
theorem rs_ip : rowSize Try.prog 48 = some 43 := by kernel_rfl
theorem rs_rip : rowSize Try.prog 58 = some 43 := by kernel_rfl
attribute [local go_sem] rs_ip rs_rip

/-- how long its head is. -/
def sizeH (h : Ip) : Int := if h.v then 40 else 20 + (h.no : Int)

end Go.Proofs.Ytdlilokmfekndaa

end
section
namespace Go.Proofs.Ytdlilokmfekndaa
open Go.RowKit
attribute [local go_sem ↓] exec_span exec_put exec_build heap_alloc_new heap_old
attribute [local go_sem] spanQ_ptr spanC_some heap_of_drew heap_of_drewN rs_arr rs_ad rs_ip rs_rip putAt_ptr putOk_ptr oldOk_some built_none World.setRow_alloc_new
set_option maxRecDepth 100000
set_option linter.unusedVariables false
set_option linter.unusedSimpArgs false

theorem ret_b {a b : Bool} (h : a = b) : Ending.returned (.bool a) = .returned (.bool b) := by rw [h]
/-- is n from 0 to most? -/
def upS (most n : Int) : Bool := decide (0 ≤ n) && decide (n ≤ most)
/-- can it be? -/
def rightH (h : Ip) : Bool :=
  (rightL h.sv h.sb && h.sv == h.v) && (rightL h.dv h.db && h.dv == h.v) && upS 255 h.p && upS 255 h.ttl && upS 255 h.tos &&
  (if h.v then h.id == 0 && !h.df && h.no == 0 && upS 1048575 h.lab else upS 65535 h.id && h.lab == 0 && decide (h.no ≤ 40) && h.no % 4 == 0)

end Go.Proofs.Ytdlilokmfekndaa

end
section
/-
  The walk of header.lay: numbers as bytes, one behind the other.
-/
namespace Go.Proofs.Ytdlilokmfekndaa
open Go.RowKit
set_option maxRecDepth 100000
set_option linter.unusedVariables false
set_option linter.unusedSimpArgs false

/-- numbers (how many bytes, which number) as what is read, as pieces, as bytes. -/
def fldV (fl : List (Nat × Nat)) : List VItem := fl.map fun f => ⟨f.2, .slice none 0 0, []⟩
def fldO (fl : List (Nat × Nat)) : List (Int × Int) := fl.map fun f => (0, (f.1 : Int))
def fldF (fl : List (Nat × Nat)) : List (Int × Int) := fl.map fun f => ((f.1 : Int), (f.2 : Int))
def fldB (fl : List (Nat × Nat)) : List UInt8 := fl.flatMap fun f => numBytes f.2 f.1 f.1
def fldOk (fl : List (Nat × Nat)) : Prop := ∀ f ∈ fl, 1 ≤ f.1 ∧ f.1 ≤ 8 ∧ f.2 < 256 ^ f.1 ∧ f.2 < 9223372036854775808
theorem layS_fld : ∀ (fl : List (Nat × Nat)) (b : List UInt8), fldOk fl → b.length + 8 * fl.length ≤ 65535 → layS (((fldV fl).map fun it => (it.N, it.b)).zip (fldO fl)) b = (b ++ fldB fl, 0)
  | [], b, _, _ => by simp [fldV, fldO, fldB, layS]
  | f :: t, b, h, hl => by
    obtain ⟨h1, h8, hN, _⟩ := h f (List.mem_cons_self ..)
    have hrest := layS_fld t (b ++ numBytes f.2 f.1 f.1) (fun g hg => h g (List.mem_cons_of_mem _ hg)) (by rw [List.length_append, length_numBytes]; simp at hl; omega)
    simp only [fldV, fldO, List.map_cons, List.zip_cons_cons, layS]
    have hf : fitsS f.2 ([] : List UInt8).length 0 (f.1 : Int) = true := by unfold fitsS; rw [if_pos rfl]; simp [hN]; omega
    have hlen : (b.length : Int) + (if (0 : Int) = 4 then ((([] : List UInt8).length : Nat) : Int) else (f.1 : Int)) ≤ 65535 := by rw [if_neg (by decide)]; simp at hl; omega
    rw [if_pos hf, if_pos hlen]
    have hp : putS f.2 [] 0 (f.1 : Int) = numBytes f.2 f.1 f.1 := by unfold putS; rw [if_pos rfl]; rfl
    rw [hp]
    simp only [fldV, fldO] at hrest
    rw [hrest]
    simp [fldB]
theorem layR_fld (fl : List (Nat × Nat)) (h : fldOk fl) (hl : fl.length ≤ 4096) : layR ((fldV fl).map fun it => (it.N, it.b)) (fldO fl) = (fldB fl, 0) := by
  unfold layR
  rw [if_neg (by simp [fldO]; omega), if_neg (by simp [fldO, fldV]), layS_fld fl [] h (by simp; omega), List.nil_append]
theorem fld_take {fl : List (Nat × Nat)} {j : Nat} (h : j < fl.length) : fl.take (j + 1) = fl.take j ++ [fl[j]] := List.take_succ_eq_append_getElem h
theorem fldV_snoc (fl : List (Nat × Nat)) (f : Nat × Nat) : fldV (fl ++ [f]) = fldV fl ++ [⟨f.2, .slice none 0 0, []⟩] := by simp [fldV]
theorem fldO_snoc (fl : List (Nat × Nat)) (f : Nat × Nat) : fldO (fl ++ [f]) = fldO fl ++ [(0, (f.1 : Int))] := by simp [fldO]

theorem flds_at {w : World} {B : Nat} {A : Option Addr} {fl : List (Nat × Nat)} (h : Ops w B A (fldF fl)) {j : Nat} (hj : j < fl.length) : ∃ b off, A = some ⟨b, off, none⟩ ∧ b < B ∧ w.cell? ⟨b, off + j * 2, none⟩ = some (.int .i64 (fl[j].1 : Int)) ∧ w.cell? ⟨b, off + j * 2 + 1, none⟩ = some (.int .i64 (fl[j].2 : Int)) := by
  obtain ⟨b, off, e, hb, hc⟩ := h (by simp [fldF]; omega)
  have h := hc j (by simpa [fldF] using hj)
  refine ⟨b, off, e, hb, ?_, ?_⟩
  · simpa [fldF] using h.1
  · simpa [fldF] using h.2

end Go.Proofs.Ytdlilokmfekndaa

end
section
/-
  The walks of header.headSum; copies into a row of bytes.
-/
namespace Go.Proofs.Ytdlilokmfekndaa
open Go.RowKit
set_option maxRecDepth 100000
set_option linter.unusedVariables false
set_option linter.unusedSimpArgs false

theorem splice_map {α β : Type} (f : α → β) (L : List α) (off : Nat) (cs : List α) : (splice L off cs).map f = splice (L.map f) off (cs.map f) := by simp [splice, List.map_take, List.map_drop]
theorem Byt.srcs {w : World} {K : Nat} {sp : Option Addr} {l : List UInt8} (h : Byt w K sp l) (hp : 0 < l.length) : ∃ ad, sp = some ad ∧ ∀ j v, (l.map byteV)[j]? = some v → w.cell? (ad.add j) = some v := by
  obtain ⟨b, off, e, _, hc⟩ := h hp
  refine ⟨_, e, fun j v hv => ?_⟩
  obtain ⟨hj, hv⟩ := List.getElem?_eq_some_iff.1 hv
  rw [add_none, hc j (by simpa using hj), ← hv]
  simp [byteV]
theorem setRow_grown (w : World) (g : Nat) (cs : Array Value) : w.grownBy (w.setRow g cs) (some g) :=
  ⟨rfl, rfl, rfl, by simp [World.setRow], fun k hk hne => setRow_other w g k cs (fun e => hne (by rw [e]))⟩

/-- a copy of bytes into a row of bytes, where all of them find room. -/
theorem run_copy_bytes (w : World) (ty g off : Nat) (dp : Option Addr) (dLen dCap : Nat) (sp : Option Addr) (sCap : Nat) (B l : List UInt8) (K : Nat) (t : TypeId) (hdp : 0 < l.length → dp = some ⟨g, off, none⟩) (hg : w.heap[g]? = some (.cells (B.map byteV).toArray t (0, 0))) (hb : Byt w K sp l) (hd : l.length ≤ dLen) (hfit : off + l.length ≤ B.length) :
    ∃ w', (Builtin.copy_ #[22, 22] ty #[.slice dp dLen dCap, .slice sp l.length sCap]).run Try.prog w = .ok (goInt l.length) w' ∧ w'.heap[g]? = some (.cells ((splice B off l).map byteV).toArray t (0, 0)) ∧ w.grownBy w' (some g) := by
  have hn : Nat.min l.length dLen = l.length := Nat.min_eq_left hd
  by_cases h0 : l.length = 0
  · obtain rfl : l = [] := List.eq_nil_of_length_eq_zero h0
    refine ⟨w, run_copy_none (P := Try.prog) w 22 22 ty 5 dp sp dLen dCap 0 sCap Try.underlying22 (by kernel_rfl) (Nat.zero_min ..), ?_, World.grownBy.refl w _⟩
    rw [hg]; simp [splice]
  · obtain rfl := hdp (by omega)
    obtain ⟨ad, rfl, hs⟩ := hb.srcs (by omega)
    refine ⟨_, ?_, setRow_heap w g _ _ t _ hg, setRow_grown w g _⟩
    have h := run_copy_row (P := Try.prog) w 22 22 ty 5 g off dLen dCap ad l.length sCap (B.map byteV).toArray t (l.map byteV) Try.underlying22 (by kernel_rfl) hg (by rw [List.length_map, hn]) hs (by simpa using hfit) (byteV_one _)
    rw [List.length_map] at h
    rw [h, splice_map]
    simp [splice]
theorem wpList_copy_bytes {w : World} {ops : Array Oper} {rest : List Oper} {o : Oper} {a : Act} {Q : Exit → Act → World → Prop} (hgd : o.guard = none) (d s : Operand) (ho : o.op = .call { callee := .builtin .copy, args := #[d, s], argTypes := #[22, 22] })
    (g off dLen dCap : Nat) (sp : Option Addr) (sLen sCap : Nat) (B l : List UInt8) (K : Nat) (t : TypeId) (hd : a.eval d = .slice (some ⟨g, off, none⟩) dLen dCap) (hs : a.eval s = .slice sp sLen sCap) (hll : l.length = sLen)
    (hg : w.heap[g]? = some (.cells (B.map byteV).toArray t (0, 0))) (hb : Byt w K sp l) (hdl : sLen ≤ dLen) (hfit : off + sLen ≤ B.length)
    (h : ∀ w', w'.heap[g]? = some (.cells ((splice B off l).map byteV).toArray t (0, 0)) → w.grownBy w' (some g) → wpList Try.prog ops Q rest (a.put o.dst (goInt sLen)) w') : wpList Try.prog ops Q (o :: rest) a w := by
  subst hll
  obtain ⟨w', hr, h1, h2⟩ := run_copy_bytes w o.type g off _ dLen dCap sp sCap B l K t (fun _ => rfl) hg hb hdl hfit
  refine wpList_plain hgd fun K hK => ?_
  unfold Oper.wp
  simp [execOp, ho, resolve, invoke, builtin, hd, hs, hr, Result.andThen]
  exact hK _ _ (h w' h1 h2)
theorem step_copy_bytes {ops : Array Oper} {o : Oper} {a : Act} {w : World} {K' : Act → World → Prop} {Q : Exit → Act → World → Prop} {E : Prop} (hgd : o.guard = none) (d s : Operand) (ho : o.op = .call { callee := .builtin .copy, args := #[d, s], argTypes := #[22, 22] })
    (g off : Nat) (dp : Option Addr) (dLen dCap : Nat) (sp : Option Addr) (sLen sCap : Nat) (B l : List UInt8) (K : Nat) (t : TypeId) (hd : a.eval d = .slice dp dLen dCap) (hdp : 0 < sLen → dp = some ⟨g, off, none⟩) (hs : a.eval s = .slice sp sLen sCap) (hll : l.length = sLen)
    (hg : w.heap[g]? = some (.cells (B.map byteV).toArray t (0, 0))) (hb : Byt w K sp l) (hdl : sLen ≤ dLen) (hfit : off + sLen ≤ B.length)
    (h : ∀ w', w'.heap[g]? = some (.cells ((splice B off l).map byteV).toArray t (0, 0)) → w.grownBy w' (some g) → K' (a.put o.dst (goInt sLen)) w') : if Region.wanted o (yielded ops a.tmps) = true then Oper.wp Try.prog o a w K' Q else E := by
  have hw : Region.wanted o (yielded ops a.tmps) = true := by simp [Region.wanted, hgd]
  rw [if_pos hw]
  subst hll
  obtain ⟨w', hr, h1, h2⟩ := run_copy_bytes w o.type g off dp dLen dCap sp sCap B l K t hdp hg hb hdl hfit
  unfold Oper.wp
  simp [execOp, ho, resolve, invoke, builtin, hd, hs, hr, Result.andThen]
  exact h w' h1 h2

/-- the sum that a head has to have. -/
def headS (l : List UInt8) : Nat := 65535 - addS (addS 0 (l.take 10)) (l.drop 12)
theorem headS_le (l : List UInt8) : headS l ≤ 65535 := by unfold headS; omega

set_option maxHeartbeats 1000000 in
theorem headsum_any (w : World) (g o B c : Nat) (l : List UInt8) (h12 : 12 < l.length) (hl : l.length ≤ c) (hc : l.length ≤ 140737488355328) (hb : Byt w B (some ⟨g, o, none⟩) l) :
    Calls Try.prog 43 #[.slice (some ⟨g, o, none⟩) l.length c] w fun e w' => e = .returned (.int .u16 (headS l : Nat)) ∧ ∃ n, w' = w.drewN n := by
  obtain ⟨s, hs⟩ : ∃ s, s = addS 0 (l.take 10) := ⟨_, rfl⟩
  have hs1 : s ≤ 65535 := by rw [hs]; exact addS_le 0 _ (Nat.zero_le _)
  obtain ⟨t, ht⟩ : ∃ t, t = addS s (l.drop 12) := ⟨_, rfl⟩
  have ht1 : t ≤ 65535 := by rw [ht]; exact addS_le s _ hs1
  have hR : headS l = 65535 - t := by unfold headS; rw [← hs, ← ht]
  have b1 : Byt w B (some ⟨g, o, none⟩) (l.take 10) := fun hp => by
    obtain ⟨b, off, e, hB, hc⟩ := hb (by omega)
    exact ⟨b, off, e, hB, fun i hi => by rw [hc i (by simp at hi; omega)]; simp⟩
  have b2 := hb.cut 12
  have l1 : (l.take 10).length = 10 := by simp; omega
  have l2 : (l.drop 12).length = l.length - 12 := by simp
  have C1 : ∀ c', 10 ≤ c' → Calls Try.prog 65 #[.int .u16 0, .slice (some ⟨g, o, none⟩) (l.take 10).length c'] w fun e w' => e = .returned (.int .u16 (addS 0 (l.take 10) : Nat)) ∧ ∃ n, w' = w.drewN n := fun c' hc' => add_any 0 (some ⟨g, o, none⟩) c' (l.take 10) B w (by omega) (by omega) (by omega) b1
  have C2 := fun n => add_any s (some ⟨g, o + 12, none⟩) (c - 12) (l.drop 12) B (w.drewN n) hs1 (by omega) (by omega) (b2.drewN n)
  rw [l1] at C1
  rw [l2] at C2
  rw [← hs] at C1
  rw [← ht] at C2
  have D1 := hide C1
  have D2 := hide C2
  have HR := hide hR
  obtain ⟨n, hn⟩ : ∃ n, n = l.length := ⟨_, rfl⟩
  rw [← hn] at h12 hl hc D2 ⊢
  clear C1 C2 b1 b2 hb hs ht hR l1 l2 hn
  go_enter Try.func43, Try.ntmps43
  go_wp2_with (first | (go_at_call 65; (first | ((with_reducible refine (D1.out _ (by omega)).mono ?_); rintro _ _ ⟨rfl, n1, rfl⟩) | ((with_reducible refine (D2.out _).mono ?_); rintro _ _ ⟨rfl, n2, rfl⟩) | fail)) | fail)
  go_ret
  refine ⟨?_, n1 + n2, rfl⟩
  rw [HR.out]
  exact (show Ending.returned (Value.int .u16 (65535 - (t : Int))) = _ from by rw [show (65535 - (t : Int)) = ((65535 - t : Nat) : Int) by omega])
end Go.Proofs.Ytdlilokmfekndaa

end
