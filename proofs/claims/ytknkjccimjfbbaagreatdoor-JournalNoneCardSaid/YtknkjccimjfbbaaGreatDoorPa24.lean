import Derived.Test.YtknkjccimjfbbaaGreatDoorRows
import Derived.WalkKit
import Derived.ProofKit
import Derived.OpenShut
import Derived.ShutString
import Derived.ChangeOld
import Derived.Below
import Derived.Test.YtknkjccimjfbbaaGreatDoorPa10
import Derived.Test.YtknkjccimjfbbaaGreatDoorPa06
import Derived.Test.YtknkjccimjfbbaaGreatDoorPa12
import Derived.Test.YtknkjccimjfbbaaGreatDoorTie
import Derived.LaidMore
import Derived.Lib.LaidTab
import Derived.Lib.SmallJoins
import Derived.Test.YtknkjccimjfbbaaGreatDoorPa01
set_option linter.unusedVariables false
set_option linter.unusedSimpArgs false
set_option linter.constructorNameAsVariable false
/- How a law's walk ('it answers true, and nothing that was there has turned') gives what its row says: for any law whose arguments can be read, and that lists no variable. -/
namespace Go.Proofs.YtknkjccimjfbbaaGreatDoor
open Go.ChangeShapes Go.WideShapes Go.ChangeAt Go.RowKit

theorem seat_own : ownKnob Tryz.prog.godebug = none := by kernel_rfl
theorem seat_laid : laidOutB Tryz.prog = true := by kernel_rfl

section
variable {H : Type} {enc : TypeId × Value → H} {P : Program}

def canRead (P : Program) (ts : List TypeId) : Bool := ts.all fun t => P.readableRec t && decide (t < P.types.size)

theorem all_stays (hl : laidOutB P = true) {W W' : World} (hb : Below W.heap.size W W') :
    ∀ {ts : List TypeId} {vs : List Value} {ds : List (DataW H)} {ps : List MemPlace}, canRead P ts = true → (∀ x ∈ ps, x.block < W.heap.size) →
      DataW.TrodAll enc P W 0 (fun _ => true) true ts vs ds ps → DataW.TrodAll enc P W' 0 (fun b => decide (b < W.heap.size)) true ts vs ds ps
  | [], vs, ds, ps, _, _, h => by
    obtain ⟨rfl, rfl, rfl⟩ := trodAll_nil h
    exact trodAll_mk0
  | t :: ts, vs, ds, ps, hr, hlt, h => by
    obtain ⟨v0, vs0, d0, ds0, p0, q0, rfl, rfl, rfl, h0, r0⟩ := trodAll_cons h
    simp only [canRead, List.all_cons, Bool.and_eq_true, decide_eq_true_eq] at hr
    exact trodAll_cons_mk (Below.trod hl hr.1.1 hr.1.2 h0 hb (fun x hx => hlt x (by simp [hx])))
      (all_stays hl hb (by simpa [canRead] using hr.2) (fun x hx => hlt x (by simp [hx])) r0)

theorem law_closes {f : Func} {s : ChangeSpec} {b : TypeId} {W W' : World} {args : Array Value} {ds gs : List (DataW H)} {before : List MemPlace}
    (hl : laidOutB P = true) (hv : s.vars = []) (hpar : canRead P f.params.toList = true) (hrt : f.resultTypes = #[b]) (hbt : P.underlying b = some .bool)
    (hW : DataW.Whole enc P f.params.toList s.vars false W args.toList ds gs before)
    (hspec : (s.fn H (ds ++ gs)).results = [.lit (.bool true)] ∧ (s.fn H (ds ++ gs)).args = ds ∧ (s.fn H (ds ++ gs)).vars = [])
    (bel : Below W.heap.size W W') : s.post enc P f false true false false W args (.bool true) W' := by
  have hW' := hW
  have hlt := hW.lt
  obtain ⟨p, q, hA, hV, rfl, _, _⟩ := hW
  rw [hv] at hV
  obtain ⟨rfl, rfl⟩ := trodVars_none hV
  refine ⟨ds, [], _, [], p, [], hW', ?_, ?_, ?_, bel.frame _, fun h => by cases h⟩
  · rw [hrt, hspec.1]; exact trodAll_mk1 (shut_bool hbt _)
  · rw [hspec.2.1]; exact all_stays hl bel hpar (fun x hx => hlt x (by simp [hx])) hA
  · rw [hv, hspec.2.2]; rfl
end

end Go.Proofs.YtknkjccimjfbbaaGreatDoor

/- Arguments that are changes, and transactions, read. -/
namespace Go.Proofs.YtknkjccimjfbbaaGreatDoor
set_option linter.unusedVariables false
set_option linter.constructorNameAsVariable false
set_option maxRecDepth 100000
open Go.ChangeShapes Go.WideShapes Go.ChangeAt Go.RowKit

theorem under_atT {fs : Array Field} {j : Nat} {u : TypeDesc} (hj : j < fs.size) (h : (fs[j]?).bind (fun f => Tryz.prog.underlying f.type) = some u) : Tryz.prog.underlying (fs[j]).type = some u := by
  rw [Array.getElem?_eq_getElem hj] at h; exact h
theorem chg_under : ∃ fs, Tryz.prog.underlying 63 = some (.struct fs) ∧ fs.size = 2 ∧ Deep.oneCellFields Tryz.prog fs = true ∧
    (fs[0]?).bind (fun f => Tryz.prog.underlying f.type) = some (.int .i64) ∧ (fs[1]?).bind (fun f => Tryz.prog.underlying f.type) = some .string :=
  ⟨_, Tryz.underlying63, by kernel_rfl, by kernel_rfl, by kernel_rfl, by kernel_rfl⟩
theorem chg_cellsOf : Tryz.prog.cellsOf 63 = 2 := by kernel_rfl
/-- what a change that is handed in may be -/
def fitC (l : List (Int × ByteArray)) : Prop := ∀ c ∈ l, I64 c.1 ∧ c.2.size ≤ maxLen
section
variable {H : Type} {enc : TypeId × Value → H} {w : World} {held : Bool}
theorem open_chg_cells {cs : List Value} {fuel : Nat} {y : DataW H × List MemPlace} (hl : cs.length = 2)
    (h : DataW.trod enc Tryz.prog w 0 (fun _ => true) held fuel 63 cs = some y) : ∃ c : Int × ByteArray, cs = [.int .i64 c.1, .string c.2] ∧ I64 c.1 ∧ c.2.size ≤ maxLen := by
  obtain ⟨fs, hs, h0, h1, t0, t1⟩ := chg_under
  have hall := open_fields hs h1 h (by rw [h0, hl])
  match cs, hl with
  | [c0, c1], _ =>
    obtain ⟨_, _, y0⟩ := hall 0 (by omega)
    obtain ⟨_, _, y1⟩ := hall 1 (by omega)
    obtain ⟨a, e0, _, w0⟩ := DataW.trod_int (under_atT (by omega) t0) y0
    obtain ⟨b, e1, _, w1⟩ := DataW.trod_string (under_atT (by omega) t1) y1
    simp at e0 e1
    subst e0 e1
    exact ⟨(a, b), rfl, bounds_i64 w0, w1⟩
theorem rows_chgs : ∀ (n : Nat) (cs : List Value), cs.length = n * 2 → (∀ i < n, ∃ c : Int × ByteArray, (cs.drop (i * 2)).take 2 = [.int .i64 c.1, .string c.2] ∧ I64 c.1 ∧ c.2.size ≤ maxLen) → ∃ l : List (Int × ByteArray), l.length = n ∧ cs = chgsL l ∧ fitC l
  | 0, cs, hl, _ => ⟨[], rfl, List.eq_nil_of_length_eq_zero (by omega), fun e he => by cases he⟩
  | n + 1, cs, hl, h => by
    obtain ⟨e, he, hf⟩ := h 0 (by omega)
    obtain ⟨l, hll, hcl, hfl⟩ := rows_chgs n (cs.drop 2) (by rw [List.length_drop]; omega) fun i hi => by
      have := h (i + 1) (by omega)
      rw [List.drop_drop, show 2 + i * 2 = (i + 1) * 2 by omega]
      exact this
    refine ⟨e :: l, by rw [List.length_cons, hll], ?_, fun y hy => ?_⟩
    · show cs = [Value.int .i64 e.1, Value.string e.2] ++ chgsL l
      rw [← hcl]
      rw [Nat.zero_mul, List.drop_zero] at he
      conv => lhs; rw [← List.take_append_drop 2 cs, he]
    · rcases List.mem_cons.1 hy with rfl | hy
      · exact hf
      · exact hfl y hy
theorem open_chgs_cell {fuel : Nat} {v : Value} {y : DataW H × List MemPlace} {t : TypeId} (ht : Tryz.prog.underlying t = some (.slice 63))
    (h : DataW.trod enc Tryz.prog w 0 (fun _ => true) held fuel t [v] = some y) : ∃ l : List (Int × ByteArray), ChgsIn v l w ∧ fitC l := by
  obtain ⟨n, cs, hr, hi⟩ := open_row_cell ht h
  rw [chg_cellsOf] at hr hi
  obtain ⟨l, hl, rfl, hf⟩ := rows_chgs n cs hr.1 fun i hlt => by
    obtain ⟨m, x, hx⟩ := hi i hlt
    refine open_chg_cells ?_ hx
    rw [List.length_take, List.length_drop, hr.1]
    have : (i + 1) * 2 ≤ n * 2 := Nat.mul_le_mul_right 2 (by omega)
    omega
  subst hl
  exact ⟨l, hr, hf⟩
end
theorem txn_under : ∃ fs, Tryz.prog.underlying 25 = some (.struct fs) ∧ fs.size = 2 ∧ Deep.oneCellFields Tryz.prog fs = true ∧
    (fs[0]?).bind (fun f => Tryz.prog.underlying f.type) = some (.slice 63) ∧ (fs[1]?).bind (fun f => Tryz.prog.underlying f.type) = some (.slice 3) :=
  ⟨_, Tryz.underlying25, by kernel_rfl, by kernel_rfl, by kernel_rfl, by kernel_rfl⟩
theorem txn_cellsOf : Tryz.prog.cellsOf 25 = 2 := by kernel_rfl
theorem open_txn {H : Type} {enc : TypeId × Value → H} {W : World} {base : Nat} {v : Value} {d : DataW H} {p : List MemPlace} (hval : Value.okWide Tryz.prog W .any base 25 v)
    (h : DataW.Trod enc Tryz.prog W 0 (fun _ => true) true 25 v d p) : ∃ (L : List (Int × ByteArray)) (R : List Int) (vc vr : Value), v = .agg #[vc, vr] ∧ fitC L ∧ (∀ x ∈ R, I64 x) ∧ ChgsIn vc L W ∧ IntsIn vr R W := by
  obtain ⟨fs, hs, h0, h1, t0, t1⟩ := txn_under
  obtain ⟨cs, rfl, hsz⟩ := okWide_struct hs hval
  rw [txn_cellsOf] at hsz
  obtain ⟨l⟩ := cs
  match l, hsz with
  | [c0, c1], _ =>
    obtain ⟨fuel, hf⟩ := h
    have hall := open_fields hs h1 (by simpa [Value.cells] using hf) (by rw [h0]; rfl)
    obtain ⟨_, _, y0⟩ := hall 0 (by omega)
    obtain ⟨_, _, y1⟩ := hall 1 (by omega)
    obtain ⟨L, rL, fL⟩ := open_chgs_cell (under_atT (by omega) t0) y0
    obtain ⟨R, rR, wR⟩ := open_ints_cell (under_atT (by omega) t1) Tryz.underlying3 (by kernel_rfl) y1
    exact ⟨L, R, c0, c1, rfl, fL, fun x hx => bounds_i64 (wR x hx), rL, rR⟩
theorem open_chgs {H : Type} {enc : TypeId × Value → H} {W : World} {base : Nat} {v : Value} {d : DataW H} {p : List MemPlace} (hval : Value.okWide Tryz.prog W .any base 22 v)
    (h : DataW.Trod enc Tryz.prog W 0 (fun _ => true) true 22 v d p) : ∃ L : List (Int × ByteArray), fitC L ∧ ChgsIn v L W := by
  obtain ⟨fuel, hf⟩ := h
  obtain ⟨a0, len, cap, rfl⟩ := okWide_slice Tryz.underlying22 hval
  obtain ⟨L, rL, fL⟩ := open_chgs_cell Tryz.underlying22 (by simpa [Value.cells] using hf)
  exact ⟨L, fL, rL⟩
end Go.Proofs.YtknkjccimjfbbaaGreatDoor

/- From the condition on the table, as the program's text lays it, to what the walks ask. -/
namespace Go.Proofs.YtknkjccimjfbbaaGreatDoor
open Go.RowKit

def laidS : List (String × DataW Unit) := [("glissade/sums.halves", Rows.laid_glissade_sums_halves)]
theorem gHalves : Tryz.prog.globalNamed "glissade/sums.halves" = some 0 := by kernel_rfl
theorem tHalves : (Tryz.prog.globals[0]?).map (·.type) = some 165 := by kernel_rfl

theorem tab_of_laid {W : World} (h : laidMetH Tryz.prog laidS W) : Tab W := by
  rw [MakeChecks.laidMetH_plain _ _ _ (by kernel_rfl)] at h
  have hT := Lib.tabIs_of_head (k := .u32) (zs := tabL) gHalves tHalves Tryz.underlying165 Tryz.underlying92 (by kernel_rfl) (by kernel_rfl) h
  intro i hi
  rw [hT.cell gHalves i hi, tab_cell i hi]

/-- the door's own heap meets the condition -/
theorem door_met (os : Os) (args : Array Value) : laidMetH Tryz.prog laidS ((World.doorLaid Tryz.prog 400 os).forCall (fun _ _ => 0) ⟨#[], args, []⟩).memory :=
  laidMetH_of_parts3 (fuel := 8) (laidMet_of_run' 8 (by kernel_rfl) (by kernel_rfl)) (by kernel_rfl) (by kernel_rfl)
end Go.Proofs.YtknkjccimjfbbaaGreatDoor

/- An argument that is a struct, or an array, of numbers of one kind: read. -/
namespace Go.Proofs.YtknkjccimjfbbaaGreatDoor
set_option linter.unusedVariables false
open Go.ChangeShapes Go.WideShapes Go.ChangeAt Go.RowKit Go.Joins

section
variable {H : Type} {enc : TypeId × Value → H} {P : Program} {w : World} {base : Nat} {spare : Nat → Bool} {held : Bool}
def numV : Value → Int
  | .int _ n => n
  | _ => 0
theorem all_nums {k : IntKind} {cs : Array Value} (h : ∀ i, i < cs.size → ∃ z, cs[i]? = some (.int k z) ∧ (Lit.int k z).wf = true) :
    ∃ zs : List Int, zs.length = cs.size ∧ cs = (zs.map (Value.int k)).toArray ∧ ∀ z ∈ zs, (Lit.int k z).wf = true := by
  refine ⟨cs.toList.map numV, by simp, ?_, fun z hz => ?_⟩
  · apply Array.ext_getElem?
    intro i
    by_cases hi : i < cs.size
    · obtain ⟨z, hz, _⟩ := h i hi
      rw [hz]
      simp [hz, numV]
    · simp [Array.getElem?_eq_none (show cs.size ≤ i by omega), hi]
  · obtain ⟨v, hv, rfl⟩ := List.mem_map.1 hz
    obtain ⟨i, hi, rfl⟩ := List.getElem_of_mem hv
    obtain ⟨z, hz2, hw⟩ := h i (by simpa using hi)
    have e : cs.toList[i] = .int k z := by
      have : cs[i]? = some cs.toList[i] := by simp
      rw [this] at hz2; exact Option.some.inj hz2
    rw [e]; exact hw
theorem open_struct_ints {k : IntKind} {r : Reach} {b0 : Nat} {t e : TypeId} {fs : Array Field} {v : Value} {d : DataW H} {p : List MemPlace} (hs : P.underlying t = some (.struct fs)) (he : P.underlying e = some (.int k)) (hone : Deep.oneCellFields P fs = true)
    (hall : (fs.toList.all fun f => f.type == e) = true) (hC : P.cellsOf t = fs.size) (hv : Value.okWide P w r b0 t v) (h : DataW.Trod enc P w base spare held t v d p) :
    ∃ zs : List Int, zs.length = fs.size ∧ v = .agg (zs.map (Value.int k)).toArray ∧ ∀ z ∈ zs, (Lit.int k z).wf = true := by
  obtain ⟨cs, rfl, hsz⟩ := okWide_struct hs hv
  obtain ⟨fuel, hf⟩ := h
  obtain ⟨xs, n, _, _, _, hlen, hr⟩ := DataW.trod_struct hs hf
  have hn : cs.size = fs.size := hsz.trans hC
  obtain ⟨zs, h1, h2, h3⟩ := all_nums (k := k) (cs := cs) fun i hi => by
    have hi' : i < fs.size := by omega
    have hfi : fs[i]? = some fs[i] := Array.getElem?_eq_getElem hi'
    obtain ⟨o, c⟩ := Deep.hone_of hone i _ hfi
    have ht : fs[i].type = e := by simpa using List.all_eq_true.1 hall fs[i] (by simp)
    have hq := hr i _ hfi
    rw [o, c, List.getElem?_eq_getElem (show i < xs.length by omega)] at hq
    have hl : ((cs.toList.drop i).take 1) = [cs[i]] := by
      rw [List.drop_eq_getElem_cons (by simpa using hi)]; simp
    have hx : i < xs.length := by omega
    have hq : DataW.trod enc P w base spare held n e [cs[i]] = some xs[i] := by
      rw [← ht, ← hl]; simpa [Value.cells] using hq
    obtain ⟨z, e1, _, e2⟩ := DataW.trod_int he hq
    refine ⟨z, ?_, e2⟩
    rw [Array.getElem?_eq_getElem hi]; simpa using e1
  exact ⟨zs, h1.trans hn, by rw [h2], h3⟩
end
end Go.Proofs.YtknkjccimjfbbaaGreatDoor

/- An argument that is a layout, read. -/
namespace Go.Proofs.YtknkjccimjfbbaaGreatDoor
set_option linter.unusedVariables false
set_option linter.constructorNameAsVariable false
set_option maxRecDepth 100000
open Go.ChangeShapes Go.WideShapes Go.ChangeAt Go.RowKit Go.Joins

theorem nine {l : List Int} (h : l.length = 9) : ∃ a b c d e f g h i, l = [a, b, c, d, e, f, g, h, i] := by
  match l, h with
  | [a, b, c, d, e, f, g, h, i], _ => exact ⟨a, b, c, d, e, f, g, h, i, rfl⟩
theorem geo_under : ∃ fs : Array Field, Tryz.prog.underlying 30 = some (.struct fs) ∧ Deep.oneCellFields Tryz.prog fs = true ∧ (fs.toList.all fun f => f.type == 3) = true ∧ fs.size = 9 := ⟨_, Tryz.underlying30, by kernel_rfl, by kernel_rfl, rfl⟩
theorem geo_cellsOf : Tryz.prog.cellsOf 30 = 9 := by kernel_rfl
theorem open_geo {H : Type} {enc : TypeId × Value → H} {W : World} {base : Nat} {v : Value} {d : DataW H} {p : List MemPlace} (hval : Value.okWide Tryz.prog W .any base 30 v)
    (h : DataW.Trod enc Tryz.prog W 0 (fun _ => true) true 30 v d p) : ∃ b l i la ma ml ta tl da : Int, v = geo b l i la ma ml ta tl da := by
  obtain ⟨fs, hs, h1, h2, h3⟩ := geo_under
  obtain ⟨zs, e1, rfl, _⟩ := open_struct_ints hs Tryz.underlying3 h1 h2 (geo_cellsOf.trans h3.symm) hval h
  obtain ⟨a, b, c, x, e, f, g, y, i, rfl⟩ := nine (e1.trans h3)
  exact ⟨a, b, c, x, e, f, g, y, i, rfl⟩
end Go.Proofs.YtknkjccimjfbbaaGreatDoor
