import Derived.Test.YtanghmogeiiooaaGreatDoorRows
import Derived.WalkKit
import Derived.ProofKit
import Derived.OpenShut
import Derived.ShutString
import Derived.ChangeOld
import Derived.Below
import Derived.Test.YtanghmogeiiooaaGreatDoorPa06
import Derived.Test.YtanghmogeiiooaaGreatDoorPa36
import Derived.Lib.SmallJoins
import Derived.Test.YtanghmogeiiooaaGreatDoorPa12
import Derived.Test.YtanghmogeiiooaaGreatDoorTie
import Derived.LaidMore
import Derived.Lib.LaidTab
import Derived.Test.YtanghmogeiiooaaGreatDoorPd49
set_option linter.unusedVariables false
set_option linter.unusedSimpArgs false
set_option linter.constructorNameAsVariable false
/- How a law's walk ('it answers true, and nothing that was there has turned') gives what its row says: for any law whose arguments can be read, and that lists no variable. -/
namespace Go.Proofs.YtanghmogeiiooaaGreatDoor
open Go.ChangeShapes Go.WideShapes Go.ChangeAt Go.RowKit

theorem seat_own : ownKnob Tryz.prog.godebug = none := by kernel_rfl
theorem seat_laid : laidOutB Tryz.prog = true := by kernel_rfl

section
variable {H : Type} {enc : TypeId × Value → H} {P : Program}

def canRead (P : Program) (ts : List TypeId) : Bool := ts.all fun t => P.readableRec t && decide (t < P.types.size)

theorem all_stays (hl : laidOutB P = true) {W W' : World} (hb : Below W.heap.size W W') :
    ∀ {ts : List TypeId} {vs : List Value} {ds : List (DataW H)} {ps : List MemPlace}, canRead P ts = true → (∀ x ∈ ps, x.block < W.heap.size) →
      DataW.TrodAll enc P W 0 (fun _ => true) true ts vs ds ps → DataW.TrodAll enc P W' 0 (fun b => decide (b < W.heap.size)) true ts vs ds ps
  | [], vs, ds, ps, _, _, h => by
    obtain ⟨rfl, rfl, rfl⟩ := trodAll_nil h
    exact trodAll_mk0
  | t :: ts, vs, ds, ps, hr, hlt, h => by
    obtain ⟨v0, vs0, d0, ds0, p0, q0, rfl, rfl, rfl, h0, r0⟩ := trodAll_cons h
    simp only [canRead, List.all_cons, Bool.and_eq_true, decide_eq_true_eq] at hr
    exact trodAll_cons_mk (Below.trod hl hr.1.1 hr.1.2 h0 hb (fun x hx => hlt x (by simp [hx])))
      (all_stays hl hb (by simpa [canRead] using hr.2) (fun x hx => hlt x (by simp [hx])) r0)

theorem law_closes {f : Func} {s : ChangeSpec} {b : TypeId} {W W' : World} {args : Array Value} {ds gs : List (DataW H)} {before : List MemPlace}
    (hl : laidOutB P = true) (hv : s.vars = []) (hpar : canRead P f.params.toList = true) (hrt : f.resultTypes = #[b]) (hbt : P.underlying b = some .bool)
    (hW : DataW.Whole enc P f.params.toList s.vars false W args.toList ds gs before)
    (hspec : (s.fn H (ds ++ gs)).results = [.lit (.bool true)] ∧ (s.fn H (ds ++ gs)).args = ds ∧ (s.fn H (ds ++ gs)).vars = [])
    (bel : Below W.heap.size W W') : s.post enc P f false true false false W args (.bool true) W' := by
  have hW' := hW
  have hlt := hW.lt
  obtain ⟨p, q, hA, hV, rfl, _, _⟩ := hW
  rw [hv] at hV
  obtain ⟨rfl, rfl⟩ := trodVars_none hV
  refine ⟨ds, [], _, [], p, [], hW', ?_, ?_, ?_, bel.frame _, fun h => by cases h⟩
  · rw [hrt, hspec.1]; exact trodAll_mk1 (shut_bool hbt _)
  · rw [hspec.2.1]; exact all_stays hl bel hpar (fun x hx => hlt x (by simp [hx])) hA
  · rw [hv, hspec.2.2]; rfl
end

end Go.Proofs.YtanghmogeiiooaaGreatDoor

/- An argument that is a record, read. -/
namespace Go.Proofs.YtanghmogeiiooaaGreatDoor
set_option linter.unusedVariables false
set_option linter.constructorNameAsVariable false
set_option maxRecDepth 100000
open Go.ChangeShapes Go.WideShapes Go.ChangeAt Go.RowKit

theorem under_at {fs : Array Field} {j : Nat} {u : TypeDesc} (hj : j < fs.size) (h : (fs[j]?).bind (fun f => Tryz.prog.underlying f.type) = some u) : Tryz.prog.underlying (fs[j]).type = some u := by
  rw [Array.getElem?_eq_getElem hj] at h; exact h
end Go.Proofs.YtanghmogeiiooaaGreatDoor

/- Arguments that are steps, and a failure, read. -/
namespace Go.Proofs.YtanghmogeiiooaaGreatDoor
set_option linter.unusedVariables false
set_option linter.constructorNameAsVariable false
set_option maxRecDepth 100000
open Go.ChangeShapes Go.WideShapes Go.ChangeAt Go.RowKit

theorem step_under : ∃ fs, Tryz.prog.underlying 45 = some (.struct fs) ∧ fs.size = 5 ∧ Deep.oneCellFields Tryz.prog fs = true ∧
    (fs[0]?).bind (fun f => Tryz.prog.underlying f.type) = some (.int .u8) ∧ (fs[1]?).bind (fun f => Tryz.prog.underlying f.type) = some (.slice 5) ∧ (fs[2]?).bind (fun f => Tryz.prog.underlying f.type) = some (.slice 5) ∧
    (fs[3]?).bind (fun f => Tryz.prog.underlying f.type) = some (.int .u8) ∧ (fs[4]?).bind (fun f => Tryz.prog.underlying f.type) = some .bool :=
  ⟨_, Tryz.underlying45, by kernel_rfl, by kernel_rfl, by kernel_rfl, by kernel_rfl, by kernel_rfl, by kernel_rfl, by kernel_rfl⟩
theorem step_cellsOf : Tryz.prog.cellsOf 45 = 5 := by kernel_rfl
theorem u8s_of {v : Value} {w : World} {l : List Int} (h : RowIn 1 v l.length (l.map (Value.int .u8)) w) (hl : ∀ x ∈ l, 0 ≤ x ∧ x ≤ 255) : ∃ C : List Nat, U8In v C w ∧ ∀ n ∈ C, n < 256 := by
  refine ⟨l.map Int.toNat, ?_, fun n hn => ?_⟩
  · have e : (l.map Int.toNat).map (fun (n : Nat) => Value.int .u8 (n : Int)) = l.map (Value.int .u8) := by
      rw [List.map_map]
      refine List.map_congr_left fun x hx => ?_
      show Value.int .u8 ((x.toNat : Nat) : Int) = _
      rw [Int.toNat_of_nonneg (hl x hx).1]
    show RowIn 1 v (l.map Int.toNat).length ((l.map Int.toNat).map fun (n : Nat) => Value.int .u8 (n : Int)) w
    rw [e, List.length_map]; exact h
  · obtain ⟨x, hx, rfl⟩ := List.mem_map.1 hn
    have := hl x hx; omega
section
variable {H : Type} {enc : TypeId × Value → H} {w : World} {held : Bool}
theorem open_step_cells {cs : List Value} {fuel : Nat} {y : DataW H × List MemPlace} (hl : cs.length = 5)
    (h : DataW.trod enc Tryz.prog w 0 (fun _ => true) held fuel 45 cs = some y) : ∃ q : StepX × Value × Value, cs = (stepC q.1 q.2.1 q.2.2).toList ∧ StepIn q.1 q.2.1 q.2.2 w := by
  obtain ⟨fs, hs, h0, h1, t0, t1, t2, t3, t4⟩ := step_under
  have hall := open_fields hs h1 h (by rw [h0, hl])
  match cs, hl with
  | [c0, c1, c2, c3, c4], _ =>
    obtain ⟨_, _, y0⟩ := hall 0 (by omega)
    obtain ⟨_, _, y1⟩ := hall 1 (by omega)
    obtain ⟨_, _, y2⟩ := hall 2 (by omega)
    obtain ⟨_, _, y3⟩ := hall 3 (by omega)
    obtain ⟨_, _, y4⟩ := hall 4 (by omega)
    obtain ⟨k, e0, _, w0⟩ := DataW.trod_int (under_at (by omega) t0) y0
    obtain ⟨l, rl, wl⟩ := open_ints_cell (under_at (by omega) t1) Tryz.underlying5 (by kernel_rfl) y1
    obtain ⟨m, rm, wm⟩ := open_ints_cell (under_at (by omega) t2) Tryz.underlying5 (by kernel_rfl) y2
    obtain ⟨f, e3, _, w3⟩ := DataW.trod_int (under_at (by omega) t3) y3
    obtain ⟨bb, e4, _⟩ := DataW.trod_bool (under_at (by omega) t4) y4
    simp at e0 e3 e4
    subst e0 e3 e4
    have b0 := bounds_u8 w0
    have b3 := bounds_u8 w3
    obtain ⟨k, rfl⟩ := Int.eq_ofNat_of_zero_le b0.1
    obtain ⟨f, rfl⟩ := Int.eq_ofNat_of_zero_le b3.1
    obtain ⟨C, hC, hC2⟩ := u8s_of rl fun x hx => by have := bounds_u8 (wl x hx); omega
    obtain ⟨D, hD, hD2⟩ := u8s_of rm fun x hx => by have := bounds_u8 (wm x hx); omega
    exact ⟨(⟨k, C, D, f, bb⟩, c1, c2), rfl, ⟨by show k < 256; omega, by show f < 256; omega, hC2, hD2, hC, hD⟩⟩
end
theorem open_steps {H : Type} {enc : TypeId × Value → H} {W : World} {base : Nat} {v : Value} {d : DataW H} {p : List MemPlace} (hval : Value.okWide Tryz.prog W .any base 23 v)
    (h : DataW.Trod enc Tryz.prog W 0 (fun _ => true) true 23 v d p) : ∃ n X, StepsIn v n X W := by
  obtain ⟨fuel, hf⟩ := h
  obtain ⟨a0, len, cap0, rfl⟩ := okWide_slice Tryz.underlying23 hval
  obtain ⟨n, cs, hr, hi⟩ := open_row_cell Tryz.underlying23 (by simpa [Value.cells] using hf)
  rw [step_cellsOf] at hr hi
  have each : ∀ i, i < n → ∃ q : StepX × Value × Value, (cs.drop (i * 5)).take 5 = (stepC q.1 q.2.1 q.2.2).toList ∧ StepIn q.1 q.2.1 q.2.2 W := fun i hlt => by
    obtain ⟨m, x, hx⟩ := hi i hlt
    refine open_step_cells ?_ hx
    rw [List.length_take, List.length_drop, hr.1]
    have : (i + 1) * 5 ≤ n * 5 := Nat.mul_le_mul_right 5 (by omega)
    omega
  have hch : ∃ Q : Nat → StepX × Value × Value, ∀ i, i < n → (cs.drop (i * 5)).take 5 = (stepC (Q i).1 (Q i).2.1 (Q i).2.2).toList ∧ StepIn (Q i).1 (Q i).2.1 (Q i).2.2 W := by
    refine ⟨fun i => if h : i < n then Classical.choose (each i h) else (⟨0, [], [], 0, false⟩, .bool false, .bool false), fun i hlt => ?_⟩
    simp only [dif_pos hlt]
    exact Classical.choose_spec (each i hlt)
  obtain ⟨Q, hQ⟩ := hch
  obtain ⟨ad, cap, e, h1, h2, h3, -⟩ := hr.shape
  refine ⟨n, fun i => (Q i).1, ad, cap, e, h1, h2, fun hp => ?_⟩
  obtain ⟨g, o, e2, hg, hc⟩ := h3 (by rw [hr.1]; omega)
  refine ⟨g, o, e2, hg, fun i => (Q i).2.1, fun i => (Q i).2.2, fun k hk => ⟨(hQ k hk).2, fun j u hj => ?_⟩⟩
  refine hc (k * 5 + j) u ?_
  have hj5 : j < 5 := (Array.getElem?_eq_some_iff.1 hj).1
  have hq := (hQ k hk).1
  have : ((cs.drop (k * 5)).take 5)[j]? = some u := by rw [hq, Array.getElem?_toList]; exact hj
  rw [List.getElem?_take, if_pos hj5, List.getElem?_drop] at this
  exact this
end Go.Proofs.YtanghmogeiiooaaGreatDoor

/- Arrays of three ints, and of three strings, opened. -/
namespace Go.Proofs.YtanghmogeiiooaaGreatDoor
open Go.ChangeShapes Go.WideShapes Go.ChangeAt Go.RowKit Go.Joins

section
variable {H : Type} {enc : TypeId × Value → H} {P : Program} {w : World} {base b0 : Nat} {spare : Nat → Bool} {held : Bool} {r : Reach} {t e : TypeId} {v : Value} {d : DataW H} {p : List MemPlace}

theorem okWide_arr {n : Nat} (ht : P.underlying t = some (.array n e)) (h : Value.okWide P w r base t v) : ∃ cs, v = .agg cs ∧ cs.size = P.cellsOf t := by
  simp only [Value.okWide, ht] at h
  obtain ⟨cs, h1, h2, _⟩ := h
  exact ⟨cs, h1, h2⟩

theorem open_ints3 {k : IntKind} (ht : P.underlying t = some (.array 3 e)) (he : P.underlying e = some (.int k)) (hce : P.cellsOf e = 1) (hct : P.cellsOf t = 3)
    (hv : Value.okWide P w r b0 t v) (h : DataW.Trod enc P w base spare held t v d p) : ∃ a b c, v = .agg #[.int k a, .int k b, .int k c] ∧ (Lit.int k a).wf = true ∧ (Lit.int k b).wf = true ∧ (Lit.int k c).wf = true := by
  obtain ⟨cs, rfl, hsz⟩ := okWide_arr ht hv
  obtain ⟨l⟩ := cs
  match l, hsz.trans hct with
  | [c0, c1, c2], _ =>
    obtain ⟨fuel, hf⟩ := h
    obtain ⟨xs, m, rfl, hx, _, hl, hi⟩ := DataW.trod_array ht (by simpa [Value.cells] using hf)
    have h0 := hi 0 (by omega)
    have h1 := hi 1 (by omega)
    have h2 := hi 2 (by omega)
    rw [hce] at h0 h1 h2
    match xs, hl with
    | [y0, y1, y2], _ =>
      obtain ⟨a, e0, _, wa⟩ := DataW.trod_int he h0
      obtain ⟨b, e1, _, wb⟩ := DataW.trod_int he h1
      obtain ⟨c, e2, _, wc⟩ := DataW.trod_int he h2
      simp at e0 e1 e2
      subst e0 e1 e2
      exact ⟨a, b, c, rfl, wa, wb, wc⟩

end
end Go.Proofs.YtanghmogeiiooaaGreatDoor

/- From the condition on the table, as the program's text lays it, to what the walks ask. -/
namespace Go.Proofs.YtanghmogeiiooaaGreatDoor
open Go.RowKit

def laidS : List (String × DataW Unit) := [("glissade/sums.halves", Rows.laid_glissade_sums_halves)]
theorem gHalves : Tryz.prog.globalNamed "glissade/sums.halves" = some 0 := by kernel_rfl
theorem tHalves : (Tryz.prog.globals[0]?).map (·.type) = some 192 := by kernel_rfl

theorem tab_of_laid {W : World} (h : laidMetH Tryz.prog laidS W) : Tab W := by
  rw [MakeChecks.laidMetH_plain _ _ _ (by kernel_rfl)] at h
  have hT := Lib.tabIs_of_head (k := .u32) (zs := tabL) gHalves tHalves Tryz.underlying192 Tryz.underlying120 (by kernel_rfl) (by kernel_rfl) h
  intro i hi
  rw [hT.cell gHalves i hi, tab_cell i hi]

/-- the door's own heap meets the condition -/
theorem door_met (os : Os) (args : Array Value) : laidMetH Tryz.prog laidS ((World.doorLaid Tryz.prog 400 os).forCall (fun _ _ => 0) ⟨#[], args, []⟩).memory :=
  laidMetH_of_parts3 (fuel := 8) (laidMet_of_run' 8 (by kernel_rfl) (by kernel_rfl)) (by kernel_rfl) (by kernel_rfl)
end Go.Proofs.YtanghmogeiiooaaGreatDoor

/- An argument that is a row of failures, read. -/
namespace Go.Proofs.YtanghmogeiiooaaGreatDoor
set_option linter.unusedVariables false
set_option linter.constructorNameAsVariable false
set_option maxRecDepth 100000
open Go.ChangeShapes Go.WideShapes Go.ChangeAt Go.RowKit

section
variable {H : Type} {enc : TypeId × Value → H} {w : World} {held : Bool}
end
end Go.Proofs.YtanghmogeiiooaaGreatDoor
