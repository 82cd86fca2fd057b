import Derived.Test.YtknefoemgifbfaaGreatPd51
import Derived.Test.YtknefoemgifbfaaGreatPd22
import Derived.Test.YtknefoemgifbfaaGreatPd28
set_option linter.unusedVariables false
set_option linter.unusedSimpArgs false
set_option linter.constructorNameAsVariable false
namespace Go.Proofs.YtknefoemgifbfaaGreat
set_option maxRecDepth 100000
open Go.ChangeShapes Go.WideShapes Go.ChangeAt Go.RowKit
theorem under_at' {fs : Array Field} {j : Nat} {u : TypeDesc} (hj : j < fs.size) (h : (fs[j]?).bind (fun f => Tryz.prog.underlying f.type) = some u) : Tryz.prog.underlying (fs[j]).type = some u := by
 rw [Array.getElem?_eq_getElem hj] at h; exact h
theorem ent_under : ∃ fs, Tryz.prog.underlying 31 = some (.struct fs) ∧ fs.size = 3 ∧ Deep.oneCellFields Tryz.prog fs = true ∧
 (fs[0]?).bind (fun f => Tryz.prog.underlying f.type) = some (.int .i64) ∧ (fs[1]?).bind (fun f => Tryz.prog.underlying f.type) = some (.int .i64) ∧ (fs[2]?).bind (fun f => Tryz.prog.underlying f.type) = some (.int .i64) :=
 ⟨_, Tryz.underlying31, by kernel_rfl, by kernel_rfl, by kernel_rfl, by kernel_rfl, by kernel_rfl⟩
theorem ent_cellsOf : Tryz.prog.cellsOf 31 = 3 := by kernel_rfl
section
variable {H : Type} {enc : TypeId × Value → H} {w : World} {held : Bool}
theorem open_ent_cells {cs : List Value} {fuel : Nat} {y : DataW H × List MemPlace} (hl : cs.length = 3)
 (h : DataW.trod enc Tryz.prog w 0 (fun _ => true) held fuel 31 cs = some y) : ∃ e : Ent, cs = [.int .i64 e.log, .int .i64 e.phys, .int .i64 e.len] ∧ I64 e.log ∧ I64 e.phys ∧ I64 e.len := by
 obtain ⟨fs, hs, h0, h1, t0, t1, t2⟩ := ent_under;have hall := open_fields hs h1 h (by rw [h0, hl])
 match cs, hl with
 | [c0, c1, c2], _ =>
   obtain ⟨_, _, y0⟩ := hall 0 (by omega);obtain ⟨_, _, y1⟩ := hall 1 (by omega);obtain ⟨_, _, y2⟩ := hall 2 (by omega);obtain ⟨a, e0, _, w0⟩ := DataW.trod_int (under_at' (by omega) t0) y0;obtain ⟨b, e1, _, w1⟩ := DataW.trod_int (under_at' (by omega) t1) y1;obtain ⟨c, e2, _, w2⟩ := DataW.trod_int (under_at' (by omega) t2) y2
   simp at e0 e1 e2
   subst e0 e1 e2;exact ⟨⟨a, b, c⟩, rfl, bounds_i64 w0, bounds_i64 w1, bounds_i64 w2⟩
theorem rows_ents : ∀ (n : Nat) (cs : List Value), cs.length = n * 3 → (∀ i < n, ∃ e : Ent, (cs.drop (i * 3)).take 3 = [.int .i64 e.log, .int .i64 e.phys, .int .i64 e.len] ∧ I64 e.log ∧ I64 e.phys ∧ I64 e.len) → ∃ l : List Ent, l.length = n ∧ cs = cellsE l ∧ fitE l
 | 0, cs, hl, _ => ⟨[], rfl, List.eq_nil_of_length_eq_zero (by omega), fun e he => by cases he⟩
 | n + 1, cs, hl, h => by
   obtain ⟨e, he, hf⟩ := h 0 (by omega)
   obtain ⟨l, hll, hcl, hfl⟩ := rows_ents n (cs.drop 3) (by rw [List.length_drop]; omega) fun i hi => by
    have := h (i + 1) (by omega);rw [List.drop_drop, show 3 + i * 3 = (i + 1) * 3 by omega];exact this
   refine ⟨e :: l, by rw [List.length_cons, hll], ?_, fun y hy => ?_⟩
   ·rw [cellsE, ← hcl]
    rw [Nat.zero_mul, List.drop_zero] at he
    conv => lhs; rw [← List.take_append_drop 3 cs, he]
    rfl
   ·rcases List.mem_cons.1 hy with rfl | hy
    ·exact hf
    ·exact hfl y hy
theorem open_ents_cell {fuel : Nat} {v : Value} {y : DataW H × List MemPlace} {t : TypeId} (ht : Tryz.prog.underlying t = some (.slice 31))
 (h : DataW.trod enc Tryz.prog w 0 (fun _ => true) held fuel t [v] = some y) : ∃ l : List Ent, EntsIn v l w ∧ fitE l := by
 obtain ⟨n, cs, hr, hi⟩ := open_row_cell ht h;rw [ent_cellsOf] at hr hi
 obtain ⟨l, hl, rfl, hf⟩ := rows_ents n cs hr.1 fun i hlt => by
  obtain ⟨m, x, hx⟩ := hi i hlt;refine open_ent_cells ?_ hx;rw [List.length_take, List.length_drop, hr.1];have : (i + 1) * 3 ≤ n * 3 := Nat.mul_le_mul_right 3 (by omega);omega
 subst hl;exact ⟨l, hr, hf⟩
end
structure FitI (x : Ino) : Prop where
 kind : I64 x.kind
 links : I64 x.links
 size : I64 x.size
 depth : I64 x.depth
 root : fitE x.root
set_option maxRecDepth 100000
open Go.ChangeShapes Go.WideShapes Go.ChangeAt Go.RowKit
theorem under_atT {fs : Array Field} {j : Nat} {u : TypeDesc} (hj : j < fs.size) (h : (fs[j]?).bind (fun f => Tryz.prog.underlying f.type) = some u) : Tryz.prog.underlying (fs[j]).type = some u := by
 rw [Array.getElem?_eq_getElem hj] at h; exact h
section
variable {H : Type} {enc : TypeId × Value → H} {w : World} {held : Bool}
end
set_option maxRecDepth 100000
open Go.ChangeShapes Go.WideShapes Go.ChangeAt Go.RowKit
theorem chg_under : ∃ fs, Tryz.prog.underlying 72 = some (.struct fs) ∧ fs.size = 2 ∧ Deep.oneCellFields Tryz.prog fs = true ∧
 (fs[0]?).bind (fun f => Tryz.prog.underlying f.type) = some (.int .i64) ∧ (fs[1]?).bind (fun f => Tryz.prog.underlying f.type) = some .string :=
 ⟨_, Tryz.underlying72, by kernel_rfl, by kernel_rfl, by kernel_rfl, by kernel_rfl⟩
theorem chg_cellsOf : Tryz.prog.cellsOf 72 = 2 := by kernel_rfl
def fitC (l : List (Int × ByteArray)) : Prop := ∀ c ∈ l, I64 c.1 ∧ c.2.size ≤ maxLen
section
variable {H : Type} {enc : TypeId × Value → H} {w : World} {held : Bool}
theorem open_chg_cells {cs : List Value} {fuel : Nat} {y : DataW H × List MemPlace} (hl : cs.length = 2)
 (h : DataW.trod enc Tryz.prog w 0 (fun _ => true) held fuel 72 cs = some y) : ∃ c : Int × ByteArray, cs = [.int .i64 c.1, .string c.2] ∧ I64 c.1 ∧ c.2.size ≤ maxLen := by
 obtain ⟨fs, hs, h0, h1, t0, t1⟩ := chg_under;have hall := open_fields hs h1 h (by rw [h0, hl])
 match cs, hl with
 | [c0, c1], _ =>
   obtain ⟨_, _, y0⟩ := hall 0 (by omega);obtain ⟨_, _, y1⟩ := hall 1 (by omega);obtain ⟨a, e0, _, w0⟩ := DataW.trod_int (under_atT (by omega) t0) y0;obtain ⟨b, e1, _, w1⟩ := DataW.trod_string (under_atT (by omega) t1) y1
   simp at e0 e1
   subst e0 e1;exact ⟨(a, b), rfl, bounds_i64 w0, w1⟩
theorem rows_chgs : ∀ (n : Nat) (cs : List Value), cs.length = n * 2 → (∀ i < n, ∃ c : Int × ByteArray, (cs.drop (i * 2)).take 2 = [.int .i64 c.1, .string c.2] ∧ I64 c.1 ∧ c.2.size ≤ maxLen) → ∃ l : List (Int × ByteArray), l.length = n ∧ cs = chgsL l ∧ fitC l
 | 0, cs, hl, _ => ⟨[], rfl, List.eq_nil_of_length_eq_zero (by omega), fun e he => by cases he⟩
 | n + 1, cs, hl, h => by
   obtain ⟨e, he, hf⟩ := h 0 (by omega)
   obtain ⟨l, hll, hcl, hfl⟩ := rows_chgs n (cs.drop 2) (by rw [List.length_drop]; omega) fun i hi => by
    have := h (i + 1) (by omega);rw [List.drop_drop, show 2 + i * 2 = (i + 1) * 2 by omega];exact this
   refine ⟨e :: l, by rw [List.length_cons, hll], ?_, fun y hy => ?_⟩
   ·show cs = [Value.int .i64 e.1, Value.string e.2] ++ chgsL l
    rw [← hcl];rw [Nat.zero_mul, List.drop_zero] at he
    conv => lhs; rw [← List.take_append_drop 2 cs, he]
   ·rcases List.mem_cons.1 hy with rfl | hy
    ·exact hf
    ·exact hfl y hy
theorem open_chgs_cell {fuel : Nat} {v : Value} {y : DataW H × List MemPlace} {t : TypeId} (ht : Tryz.prog.underlying t = some (.slice 72))
 (h : DataW.trod enc Tryz.prog w 0 (fun _ => true) held fuel t [v] = some y) : ∃ l : List (Int × ByteArray), ChgsIn v l w ∧ fitC l := by
 obtain ⟨n, cs, hr, hi⟩ := open_row_cell ht h;rw [chg_cellsOf] at hr hi
 obtain ⟨l, hl, rfl, hf⟩ := rows_chgs n cs hr.1 fun i hlt => by
  obtain ⟨m, x, hx⟩ := hi i hlt;refine open_chg_cells ?_ hx;rw [List.length_take, List.length_drop, hr.1];have : (i + 1) * 2 ≤ n * 2 := Nat.mul_le_mul_right 2 (by omega);omega
 subst hl;exact ⟨l, hr, hf⟩
end
theorem tree_under : ∃ fs, Tryz.prog.underlying 35 = some (.struct fs) ∧ fs.size = 2 ∧ Deep.oneCellFields Tryz.prog fs = true ∧
 (fs[0]?).bind (fun f => Tryz.prog.underlying f.type) = some (.int .i64) ∧ (fs[1]?).bind (fun f => Tryz.prog.underlying f.type) = some (.slice 31) :=
 ⟨_, Tryz.underlying35, by kernel_rfl, by kernel_rfl, by kernel_rfl, by kernel_rfl⟩
theorem tree_cellsOf : Tryz.prog.cellsOf 35 = 2 := by kernel_rfl
theorem open_tree {H : Type} {enc : TypeId × Value → H} {W : World} {base : Nat} {v : Value} {d : DataW H} {p : List MemPlace} (hval : Value.okWide Tryz.prog W .any base 35 v)
 (h : DataW.Trod enc Tryz.prog W 0 (fun _ => true) true 35 v d p) : ∃ (dp : Int) (root : List Ent) (vr : Value), v = .agg #[.int .i64 dp, vr] ∧ I64 dp ∧ fitE root ∧ EntsIn vr root W := by
 obtain ⟨fs, hs, h0, h1, t0, t1⟩ := tree_under;obtain ⟨cs, rfl, hsz⟩ := okWide_struct hs hval;rw [tree_cellsOf] at hsz;obtain ⟨l⟩ := cs
 match l, hsz with
 | [c0, c1], _ =>
   obtain ⟨fuel, hf⟩ := h;have hall := open_fields hs h1 (by simpa [Value.cells] using hf) (by rw [h0]; rfl);obtain ⟨_, _, y0⟩ := hall 0 (by omega);obtain ⟨_, _, y1⟩ := hall 1 (by omega);obtain ⟨a, e0, _, w0⟩ := DataW.trod_int (under_atT (by omega) t0) y0;obtain ⟨r, hr, fr⟩ := open_ents_cell (under_atT (by omega) t1) y1
   simp at e0
   subst e0;exact ⟨a, r, c1, rfl, bounds_i64 w0, fr, hr⟩
theorem disk_under : ∃ fs, Tryz.prog.underlying 38 = some (.struct fs) ∧ fs.size = 2 ∧ Deep.oneCellFields Tryz.prog fs = true ∧
 (fs[0]?).bind (fun f => Tryz.prog.underlying f.type) = some (.slice 72) ∧ (fs[1]?).bind (fun f => Tryz.prog.underlying f.type) = some (.int .i64) :=
 ⟨_, Tryz.underlying38, by kernel_rfl, by kernel_rfl, by kernel_rfl, by kernel_rfl⟩
theorem disk_cellsOf : Tryz.prog.cellsOf 38 = 2 := by kernel_rfl
theorem open_disk {H : Type} {enc : TypeId × Value → H} {W : World} {base : Nat} {v : Value} {d : DataW H} {p : List MemPlace} (hval : Value.okWide Tryz.prog W .any base 38 v)
 (h : DataW.Trod enc Tryz.prog W 0 (fun _ => true) true 38 v d p) : ∃ (dl : List (Int × ByteArray)) (bad : Int) (vd : Value), v = .agg #[vd, .int .i64 bad] ∧ I64 bad ∧ fitC dl ∧ ChgsIn vd dl W := by
 obtain ⟨fs, hs, h0, h1, t0, t1⟩ := disk_under;obtain ⟨cs, rfl, hsz⟩ := okWide_struct hs hval;rw [disk_cellsOf] at hsz;obtain ⟨l⟩ := cs
 match l, hsz with
 | [c0, c1], _ =>
   obtain ⟨fuel, hf⟩ := h;have hall := open_fields hs h1 (by simpa [Value.cells] using hf) (by rw [h0]; rfl);obtain ⟨_, _, y0⟩ := hall 0 (by omega);obtain ⟨_, _, y1⟩ := hall 1 (by omega);obtain ⟨r, hr, fr⟩ := open_chgs_cell (under_atT (by omega) t0) y0;obtain ⟨a, e1, _, w1⟩ := DataW.trod_int (under_atT (by omega) t1) y1
   simp at e1
   subst e1;exact ⟨r, a, c0, rfl, bounds_i64 w1, fr, hr⟩
theorem slide_under : ∃ fs, Tryz.prog.underlying 56 = some (.struct fs) ∧ fs.size = 5 ∧ Deep.oneCellFields Tryz.prog fs = true ∧
 (fs[0]?).bind (fun f => Tryz.prog.underlying f.type) = some (.int .i64) ∧ (fs[1]?).bind (fun f => Tryz.prog.underlying f.type) = some (.int .i64) ∧ (fs[2]?).bind (fun f => Tryz.prog.underlying f.type) = some (.int .i64) ∧ (fs[3]?).bind (fun f => Tryz.prog.underlying f.type) = some (.int .i64) ∧ (fs[4]?).bind (fun f => Tryz.prog.underlying f.type) = some (.int .i64) :=
 ⟨_, Tryz.underlying56, by kernel_rfl, by kernel_rfl, by kernel_rfl, by kernel_rfl, by kernel_rfl, by kernel_rfl, by kernel_rfl⟩
theorem slide_cellsOf : Tryz.prog.cellsOf 56 = 5 := by kernel_rfl
theorem open_slide {H : Type} {enc : TypeId × Value → H} {W : World} {base : Nat} {v : Value} {d : DataW H} {p : List MemPlace} (hval : Value.okWide Tryz.prog W .any base 56 v)
 (h : DataW.Trod enc Tryz.prog W 0 (fun _ => true) true 56 v d p) : ∃ a n b f k : Int, v = .agg #[.int .i64 a, .int .i64 n, .int .i64 b, .int .i64 f, .int .i64 k] ∧ I64 a ∧ I64 n ∧ I64 b ∧ I64 f ∧ I64 k := by
 obtain ⟨fs, hs, h0, h1, t0, t1, t2, t3, t4⟩ := slide_under;obtain ⟨cs, rfl, hsz⟩ := okWide_struct hs hval;rw [slide_cellsOf] at hsz;obtain ⟨l⟩ := cs
 match l, hsz with
 | [c0, c1, c2, c3, c4], _ =>
   obtain ⟨fuel, hf⟩ := h;have hall := open_fields hs h1 (by simpa [Value.cells] using hf) (by rw [h0]; rfl);obtain ⟨_, _, y0⟩ := hall 0 (by omega);obtain ⟨_, _, y1⟩ := hall 1 (by omega);obtain ⟨_, _, y2⟩ := hall 2 (by omega);obtain ⟨_, _, y3⟩ := hall 3 (by omega);obtain ⟨_, _, y4⟩ := hall 4 (by omega);obtain ⟨a, e0, _, w0⟩ := DataW.trod_int (under_atT (by omega) t0) y0;obtain ⟨b, e1, _, w1⟩ := DataW.trod_int (under_atT (by omega) t1) y1;obtain ⟨c, e2, _, w2⟩ := DataW.trod_int (under_atT (by omega) t2) y2;obtain ⟨f, e3, _, w3⟩ := DataW.trod_int (under_atT (by omega) t3) y3;obtain ⟨k, e4, _, w4⟩ := DataW.trod_int (under_atT (by omega) t4) y4
   simp at e0 e1 e2 e3 e4
   subst e0 e1 e2 e3 e4;exact ⟨a, b, c, f, k, rfl, bounds_i64 w0, bounds_i64 w1, bounds_i64 w2, bounds_i64 w3, bounds_i64 w4⟩
end Go.Proofs.YtknefoemgifbfaaGreat
