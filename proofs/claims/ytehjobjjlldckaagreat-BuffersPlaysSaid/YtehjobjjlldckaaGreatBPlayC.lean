/- The document's cache: its calls, its memory as a set. -/
import Derived.Test.YtehjobjjlldckaaGreatBase
import Derived.Deep.RegionHeld
import Derived.Test.YtehjobjjlldckaaGreatBPlayB
import Derived.Deep.RegionHeld3
import Derived.Test.YtehjobjjlldckaaGreatCAlive
namespace Go.Proofs.YtehjobjjlldckaaGreat
set_option linter.unusedVariables false
open Go.RowKit

theorem step_append {ops : Array Oper} {o : Oper} {a : Act} {w w2 : World} {K : Act → World → Prop} {Q : Exit → Act → World → Prop} {E : Prop} (hw : Region.wanted o (yielded ops a.tmps) = true) (s x : Operand) (T : TypeId)
    (ho : o.op = .call { callee := .builtin .append, args := #[s, x], argTypes := #[T, T] }) {vs vx v' : Value} (hs : a.eval s = vs) (hx : a.eval x = vx)
    (hrun : (Builtin.append_ #[T, T] o.type #[vs, vx]).run Tryz.prog w = .ok v' w2) (h : K (a.put o.dst v') w2) : if Region.wanted o (yielded ops a.tmps) = true then Oper.wp Tryz.prog o a w K Q else E := by
  rw [if_pos hw]
  unfold Oper.wp execOp
  simp only [ho, resolve, invoke, builtin, Sem.run_bind, Sem.run_pure, Result.andThen_ok, List.map_toArray, List.map_cons, List.map_nil, hs, hx, hrun]
  exact h
end Go.Proofs.YtehjobjjlldckaaGreat

namespace Go.Proofs.YtehjobjjlldckaaGreat
set_option linter.unusedVariables false
open Go.RowKit

abbrev bufC (b : Int) (data : ByteArray) (dirty pin : Bool) : Array Value := #[.int .i64 b, .string data, .bool dirty, .bool pin]
theorem RC.free {r d lo hi : Nat} {v : Value} {C : CS} {w : World} (h : RC r d lo hi v C w) (o : Obj) : ¬ MR r v w.heap.size ∧ ¬ (lo ≤ w.heap.size ∧ w.heap.size < hi) := by
  refine ⟨fun hm => ?_, fun hz => ?_⟩
  · have := h.lt hm; omega
  · have : hi ≤ w.heap.size := h.dev.top
    omega
/-- a buffer is put behind the others: what append does, and what lies there behind the store -/
theorem RC.push {r d lo hi gx : Nat} {v : Value} {C : CS} {w : World} (ty : TypeId) (h : RC r d lo hi v C w) (y : Buf) (hx : Blk gx (bufC (y.b : Int) y.data y.dirty y.pin) 83 w) (hg : ¬ MR r v gx) (hl : C.L.length < C.most) (hb : y.b < C.st.n) (hz : y.data.size = 128) (hn : ∀ z ∈ C.L, z.b ≠ y.b) :
    ∃ av m cv w2, (Builtin.append_ #[69, 69] ty #[v, .slice (some ⟨w.heap.size, 0, none⟩) 1 1]).run Tryz.prog (w.alloc (.cells (bufC (y.b : Int) y.data y.dirty y.pin) 83)).drew = .ok (.slice av m cv) w2 ∧
      w2.cell? ⟨r, 2, none⟩ = some v ∧ w2.frozen? ⟨r, 2, none⟩ = false ∧ RC r d lo hi (.slice av m cv) { C with L := C.L ++ [y] } (w2.setCell ⟨r, 2, none⟩ (.slice av m cv)) ∧ Went lo hi (MR r v) (MR r (.slice av m cv)) w (w2.setCell ⟨r, 2, none⟩ (.slice av m cv)) ∧
      (w2.setCell ⟨r, 2, none⟩ (.slice av m cv)).cell? ⟨gx, 1, none⟩ = some (.string y.data) := by
  have hm := h.most
  have b1 : Below w.heap.size w (w.alloc (.cells (bufC (y.b : Int) y.data y.dirty y.pin) 83)).drew := (balloc1 w _).drew
  have h1 := h.kept1 b1
  obtain ⟨v', w2, hr, h2, h3, h4⟩ := push4_run (w.alloc (.cells (bufC (y.b : Int) y.data y.dirty y.pin) 83)).drew ty v C.L (by omega) h1.row w.heap.size (y.b : Int) y.data y.dirty y.pin (new4 w (y.b : Int) y.data y.dirty y.pin)
  obtain ⟨av, cv, rfl, -⟩ := shape_of h2
  have t1 : Turn (MR r v) w w2 := (Turn.of_below b1 _).trans ⟨h3.os, h3.tape, h3.output, h3.size, fun k hk hn => h3.block k hk fun e => hn (.inr e.symm)⟩
  have hrb : w2.heap[r]? = w.heap[r]? := (h3.block r h1.blk.lt fun e => (h.zv r e.symm).2 rfl).trans (b1.block r h.blk.lt)
  have hbl : Blk r (cellsRC d C.most v) 71 w2 := hrb.trans h.blk
  have hrow : BufsAt 0 (.slice av (C.L.length + 1) cv) (C.L ++ [y]) w2 := by
    show w2.ownsRow _ _ _ _ (C.L ++ [y]).length (cellsB (C.L ++ [y]))
    rw [cellsB_append, List.length_append]; exact h2
  have hs : (Value.slice av (C.L.length + 1) cv).ownBlock = v.ownBlock ∨ ∀ k, (Value.slice av (C.L.length + 1) cv).ownBlock = some k → w.heap.size ≤ k := h4.imp id fun e k hk => Nat.le_trans b1.size (e k hk)
  have hst := h.store t1 hbl hrow hs (snoc_ok h.ok hl hb hz hn)
  have hxr : gx ≠ r := fun e => hg (.inl e)
  have hx2 : Blk gx (bufC (y.b : Int) y.data y.dirty y.pin) 83 w2 := hx.turn t1 hg
  exact ⟨av, C.L.length + 1, cv, w2, hr, hbl.cell 2, hbl.frozen 2, hst.1, hst.2, (hx2.other (p := ⟨r, 2, none⟩) (Ne.symm hxr) _).cell 1⟩

/-! ### New -/
theorem rdev_size : (Tryz.prog.info? 53).map (·.size) = some 5 := by kernel_rfl
theorem requal_none (w : World) (p : Addr) : ∀ d, (Op.equalIn (d + 1) 30 (.pointer (some p)) (.pointer none)).run Tryz.prog w = .ok false w := fun d => by
  simp [Op.equalIn, run_underlying Tryz.underlying30]
theorem run_req_none (w : World) (p : Addr) : (binOp .eql 30 (.pointer (some p)) (.pointer none)).run Tryz.prog w = .ok (.bool false) w := by
  have h : (Op.equal 30 (.pointer (some p)) (.pointer none)).run Tryz.prog w = .ok false w := requal_none w p 9999
  simp only [binOp]
  simp [h]
theorem rcnew_yes {d lo hi most : Nat} {S : St} (h1 : 1 ≤ most) (h2 : most ≤ 256) (w : World) (hd : RefAt d lo hi S w) :
    Calls Tryz.prog 8 #[.pointer (some ⟨d, 0, none⟩), .int .i64 (most : Int)] w fun e w' => ∃ r, e = .returned (.tuple #[.pointer (some ⟨r, 0, none⟩), .int .i64 0]) ∧ RC r d lo hi (.slice none 0 0) ⟨S, most, []⟩ w' ∧ Below w.heap.size w w' ∧ w.heap.size ≤ r := by
  have B := Lib.hid (rblocks_any w hd)
  have hq := run_req_none
  have hn := hd.ok.lo
  have t1 : ((S.n : Int) == 0) = false := by rw [beq_eq_false_iff_ne]; omega
  have HR : Hid (RC w.heap.size d lo hi (.slice none 0 0) ⟨S, most, []⟩ (w.alloc (.cells (cellsRC d most (.slice none 0 0)) 71)) ∧ Below w.heap.size w (w.alloc (.cells (cellsRC d most (.slice none 0 0)) 71))) := Lib.hid ⟨⟨⟨hd.ok, h1, h2, Nat.zero_le _, (fun x hx => by cases hx), (fun x hx => by cases hx), List.nodup_nil⟩, Blk.new _ _ _, World.ownsRow_nil _ _ _ _, hd.kept1 (balloc1 _ _), (fun hz => by have : hi ≤ w.heap.size := hd.top; omega), (fun k hk => by cases hk)⟩, balloc1 _ _⟩
  clear hd
  go_enter Tryz.func8, Tryz.ntmps8
  go_wp2_with fail
  refine B.out.mono ?_; rintro e w1 ⟨rfl, rfl⟩
  go_wp2
  go_ret2
  exact ⟨_, rfl, HR.out.1, HR.out.2, Nat.le_refl _⟩
theorem rcnew_arg {d lo hi : Nat} {S : St} (n : Int) (h : n < 1 ∨ 256 < n) (w : World) (hd : RefAt d lo hi S w) :
    Calls Tryz.prog 8 #[.pointer (some ⟨d, 0, none⟩), .int .i64 n] w fun e w' => e = .returned (.tuple #[.pointer none, .int .i64 2]) ∧ w = w' := by
  have B := Lib.hid (rblocks_any w hd)
  have hq := run_req_none
  have hn := hd.ok.lo
  have t1 : ((S.n : Int) == 0) = false := by rw [beq_eq_false_iff_ne]; omega
  clear hd
  rcases h with h | h
  · go_enter Tryz.func8, Tryz.ntmps8
    go_wp2_with fail
    refine B.out.mono ?_; rintro e w1 ⟨rfl, rfl⟩
    go_wp2
    go_ret2
    exact ⟨rfl, rfl⟩
  · have h2 : 1 ≤ n := by omega
    go_enter Tryz.func8, Tryz.ntmps8
    go_wp2_with fail
    refine B.out.mono ?_; rintro e w1 ⟨rfl, rfl⟩
    go_wp2
    go_ret2
    exact ⟨rfl, rfl⟩
theorem rcnew_none (n : Int) (w : World) : Calls Tryz.prog 8 #[.pointer none, .int .i64 n] w fun e w' => e = .returned (.tuple #[.pointer none, .int .i64 1]) ∧ w = w' := by
  go_enter Tryz.func8, Tryz.ntmps8
  go_wp2
  go_ret2
  exact ⟨rfl, rfl⟩
end Go.Proofs.YtehjobjjlldckaaGreat

namespace Go.Proofs.YtehjobjjlldckaaGreat
set_option linter.unusedVariables false
set_option linter.unusedSimpArgs false
open Go.RowKit

theorem buf_size : (Tryz.prog.info? 83).map (·.size) = some 4 := by kernel_rfl
/-- a whole buffer is written over one that stands in block g -/
theorem wpList_store_buf {ops : Array Oper} {rest : List Oper} {o : Oper} {a : Act} {w : World} {Q : Exit → Act → World → Prop} (hgd : o.guard = none) (x y : Operand) (ho : o.op = .store 83 x y)
    {g : Nat} {b : Int} {data : ByteArray} {dirty pin : Bool} (hx : a.eval x = .pointer (some ⟨g, 0, none⟩)) (hy : a.eval y = .agg (bufC b data dirty pin))
    (old : Array Value) (hold : old.size = 4) (hg : Blk g old 83 w)
    (h : ∀ w2, Blk g (bufC b data dirty pin) 83 w2 → Turn (fun k => k = g) w w2 → wpList Tryz.prog ops Q rest (a.put o.dst undef) w2) : wpList Tryz.prog ops Q (o :: rest) a w :=
  wpList_store_row hgd _ x y ho g (bufC b data dirty pin) hx hy _ _ hg buf_size hold (by simp [Value.oneCell'])
    (h _ (setRow_heap w g _ _ _ _ hg) ⟨rfl, rfl, rfl, by simp, fun j _ hj => setRow_other w g j _ hj⟩)
theorem RC.young {r d lo hi g : Nat} {v : Value} {C : CS} {w w' : World} (h : RC r d lo hi v C w) (t : Turn (fun k => k = g) w w') (h1 : ¬ MR r v g) (h2 : ¬ (lo ≤ g ∧ g < hi)) : RC r d lo hi v C w' :=
  h.turn t (fun k hk => by rw [hk]; exact h1) (fun k hk => by rw [hk]; exact h2)
theorem Blk.went {g lo hi : Nat} {cs : Array Value} {t : TypeId} {M M' : Nat → Prop} {w w' : World} (h : Blk g cs t w) (k : Went lo hi M M' w w') (h1 : ¬ M g) (h2 : ¬ (lo ≤ g ∧ g < hi)) : Blk g cs t w' :=
  h.turn k.turn fun ho => ho.elim h1 h2
theorem Went.not {g lo hi : Nat} {M M' : Nat → Prop} {w w' : World} (k : Went lo hi M M' w w') (h1 : ¬ M g) (hg : g < w.heap.size) : ¬ M' g := fun hm => (k.new g hm).elim h1 fun h => by omega
theorem went_new {g lo hi : Nat} {M M' : Nat → Prop} {w w1 w2 w' : World} (b : Below w.heap.size w w1) (t : Turn (fun k => k = g) w1 w2) (hg : w.heap.size ≤ g) (k : Went lo hi M M' w2 w') : Went lo hi M M' w w' := by
  have t2 : Turn (Own lo hi M) w w2 := (Turn.of_below b _).then t fun i hi he => by omega
  exact ⟨t2.then k.turn fun _ _ h => h, fun i hm => (k.new i hm).imp id fun h => Nat.le_trans t2.size h⟩

def GetR (r d lo hi : Nat) (v : Value) (C : CS) (b : Int) (w : World) (e : Ending) (w' : World) : Prop :=
  ∃ v', e = .returned (.tuple #[.string (getC C b).1, .int .i64 (getC C b).2.1]) ∧ RC r d lo hi v' (getC C b).2.2 w' ∧ Went lo hi (MR r v) (MR r v') w w'
set_option maxHeartbeats 2000000 in
theorem rcget_off {r d lo hi : Nat} {v : Value} {C : CS} (b : Int) (hb : I64 b) (h0 : b < 0 ∨ (C.st.n : Int) ≤ b) (w : World) (h : RC r d lo hi v C w) :
    Calls Tryz.prog 41 #[.pointer (some ⟨r, 0, none⟩), .int .i64 b] w (GetR r d lo hi v C b w) := by
  have B := Lib.hid (rblocks_any w h.dev)
  have c0 := h.cells.1
  have hn := h.ok.st.hi
  have HE : Hid (GetR r d lo hi v C b w (.returned (.tuple #[.string ⟨#[]⟩, .int .i64 60])) w) := Lib.hid (by
    have e : getC C b = (⟨#[]⟩, 60, C) := by unfold getC; rw [if_neg (by omega)]
    exact ⟨v, by rw [e], by rw [e]; exact h, Went.below (Below.refl _ _)⟩)
  clear h
  by_cases hb0 : b < 0
  · go_enter Tryz.func41, Tryz.ntmps41
    go_wp2
    go_ret2
    exact HE.out
  · have hb1 : (0 : Int) ≤ b := by omega
    have hb2 : (C.st.n : Int) ≤ b := by omega
    go_enter Tryz.func41, Tryz.ntmps41
    go_wp2_with fail
    refine B.out.mono ?_; rintro e w1 ⟨rfl, rfl⟩
    go_wp2
    go_ret2
    exact HE.out
set_option maxRecDepth 100000 in
set_option maxHeartbeats 4000000 in
theorem rcget_some {r d lo hi : Nat} {v : Value} {C : CS} (b : Nat) (hb : b < C.st.n) {x : Buf} (hat : atB C.L b = some x) (w : World) (h : RC r d lo hi v C w) :
    Calls Tryz.prog 41 #[.pointer (some ⟨r, 0, none⟩), .int .i64 (b : Int)] w (GetR r d lo hi v C b w) := by
  have mixed : Tryz.prog.follows .mixedOrders = true := by kernel_rfl
  have B := Lib.hid (rblocks_any w h.dev)
  have gh : Tryz.prog.stoodInHeld 83 = false := by kernel_rfl
  obtain ⟨i, hx, hxb⟩ := at_index hat
  have hn := h.ok.st.hi
  have P := Lib.hid (rplace_some (b : Int) ⟨by omega, by omega⟩ hxb hx w h)
  obtain ⟨hil, hxe⟩ := List.getElem?_eq_some_iff.1 hx
  obtain ⟨ad, cap, rfl, l1, l2, had⟩ := h.shape
  have hm := h.most
  obtain ⟨g, rfl, hg⟩ := had (by omega)
  obtain ⟨w1, hw1⟩ : ∃ w1, w.alloc (.cells (bufC (b : Int) ⟨#[]⟩ false false) 83) = w1 := ⟨_, rfl⟩
  have hb1 : Below w.heap.size w w1 := by rw [← hw1]; exact balloc1 _ _
  have hX1 : Blk w.heap.size (bufC (b : Int) ⟨#[]⟩ false false) 83 w1 := by rw [← hw1]; exact Blk.new _ _ _
  have h1 := h.kept1 hb1
  obtain ⟨fm, fz⟩ := h.free (.cells #[] 0)
  obtain ⟨q1, q2, q3, q4⟩ := buf_cells h1.row i hil
  rw [hxe] at q1 q2 q3 q4
  rw [show x.b = b by omega] at q1
  have c0 := h.cells.1
  have c2 := h1.cells.2.2
  have hi0 : (0 : Int) ≤ (i : Int) := by omega
  have e : getC C b = (x.data, 0, { C with L := dropB C.L b ++ [x] }) := by unfold getC; rw [if_pos (by omega), hat]
  have HE0 := Lib.hid e
  have H1 := Lib.hid h1
  have HX1 := Lib.hid hX1
  have HB1 := Lib.hid hb1
  have HX := Lib.hid hx
  have HF := Lib.hid (And.intro fm fz)
  have HSZ := Lib.hid (show w.heap.size < w1.heap.size by rw [← hw1, size_alloc]; omega)
  have HL := Lib.hid (And.intro (dropB_sub h.ok.un hat h.ok.len) (And.intro (h.ok.size x (List.mem_of_getElem? hx)) (h.ok.blk x (List.mem_of_getElem? hx))))
  have HW1 := Lib.hid hw1
  clear h h1 hX1 hb1 fm fz e hat had hx hxe hw1
  go_enter Tryz.func41, Tryz.ntmps41
  go_wp2_with fail
  refine B.out.mono ?_; rintro e w' ⟨rfl, rfl⟩
  go_wp2_with fail
  refine P.out.mono ?_; rintro e w' ⟨rfl, rfl⟩
  clear B P
  go_upto_region 6 with fail
  rw [HW1.out]
  go_wp2_with (refine wpList_store_buf (b := (b : Int)) rfl _ _ rfl rfl rfl _ rfl HX1.out ?_)
  intro w2 hX2 t2
  have h2 := H1.out.young t2 HF.out.1 HF.out.2
  have WO := Lib.hid (rwithout_any i hil w2 h2)
  have HX2 := Lib.hid hX2
  have HT2 := Lib.hid t2
  have hs2 := t2.size
  have fzr : ∀ w3, Below w2.heap.size w2 w3 → w3.frozen? ⟨r, 2, none⟩ = false := fun w3 b => (h2.blk.kept1 b).frozen 2
  have czr : ∀ w3, Below w2.heap.size w2 w3 → w3.cell? ⟨r, 2, none⟩ = some (.slice (some ⟨g, 0, none⟩) C.L.length cap) := fun w3 b => (h2.blk.kept1 b).cell 2
  have H2 := Lib.hid h2
  clear q1 q2 q3 q4 c0 c2 hX2 t2 h2
  go_wp2_with fail
  refine WO.out.mono ?_; rintro e w3 ⟨av, m9, cv, rfl, hrow, b3⟩
  have f1 := fzr w3 b3
  have z1 := czr w3 b3
  obtain ⟨w4, hw4⟩ : ∃ w4, w3.setCell ⟨r, 2, none⟩ (.slice av m9 cv) = w4 := ⟨_, rfl⟩
  have HZ := H2.out.less HX.out hrow b3
  rw [hw4, hxb] at HZ
  have hX4 : Blk w.heap.size (bufC (x.b : Int) x.data x.dirty x.pin) 83 w4 := by
    rw [show (x.b : Int) = (b : Int) from hxb]
    exact HX2.out.went HZ.2 HF.out.1 HF.out.2
  have hg4 : ¬ MR r (.slice av m9 cv) w.heap.size := HZ.2.not HF.out.1 (by have := HSZ.out; omega)
  have hxn : ∀ z ∈ dropB C.L (b : Int), z.b ≠ x.b := fun z hz e => (dropB_mem.1 hz).2 (by omega)
  obtain ⟨pv, pm, pc, w5, hrun, z2, f2, hfin, hwent, hgx⟩ := HZ.1.push 69 x hX4 hg4 HL.out.1 HL.out.2.2 HL.out.2.1 hxn
  have HE : Hid (GetR r d lo hi (.slice (some ⟨g, 0, none⟩) C.L.length cap) C b w (.returned (.tuple #[.string x.data, .int .i64 0])) (w5.setCell ⟨r, 2, none⟩ (.slice pv pm pc))) := Lib.hid ⟨_, by rw [HE0.out], by rw [HE0.out]; exact hfin, (went_new HB1.out HT2.out (Nat.le_refl _) HZ.2).trans hwent⟩
  have z4 : w4.drew.cell? ⟨r, 2, none⟩ = some (.slice av m9 cv) := HZ.1.cells.2.2
  have z4' : ∀ o : Obj, (w4.alloc o).drew.cell? ⟨r, 2, none⟩ = some (.slice av m9 cv) := fun o => (HZ.1.kept1 (balloc1 w4 o).drew).cells.2.2
  have y0 : w4.drew.cell? ⟨w.heap.size, 0, none⟩ = some (.int .i64 (x.b : Int)) := hX4.cell 0
  have y1 : w4.drew.cell? ⟨w.heap.size, 1, none⟩ = some (.string x.data) := hX4.cell 1
  have y2 : w4.drew.cell? ⟨w.heap.size, 2, none⟩ = some (.bool x.dirty) := hX4.cell 2
  have y3 : w4.drew.cell? ⟨w.heap.size, 3, none⟩ = some (.bool x.pin) := hX4.cell 3
  rw [hxb] at hrun y0
  have HW4 := Lib.hid hw4
  clear hxb hw4 HZ hX4 hg4 hxn hfin hwent hrow b3 HX HL HF WO HX2 HT2 H2 H1 HX1 HB1 HE0 fzr czr
  go_upto_region 12 with fail
  rw [HW4.out]
  refine wp_region_held_drew (S := fun _ => True) mixed trivial (fun hHeld => ?_)
  clear hHeld
  refine wpAnyH_take (i := 0) (oi := _) (v := ?v90) rfl (by kernel_rfl) (by kernel_rfl) (by kernel_rfl) (fun _ _ _ h => h) (Or.inl ⟨by rfl, ?hy90⟩) trivial ?rest90
  case hy90 => (intro w9 hSw; clear hSw; go_simp; try with_reducible rfl)
  try simp only [Act.put, List.setIfInBounds_toArray, List.set_cons_zero, List.set_cons_succ]
  refine wpAnyH_take (i := 1) (oi := _) (v := ?v91) rfl (by kernel_rfl) (by kernel_rfl) (by kernel_rfl) (fun _ _ _ h => h) (Or.inl ⟨by rfl, ?hy91⟩) trivial ?rest91
  case hy91 => (intro w9 hSw; clear hSw; go_simp; try with_reducible rfl)
  try simp only [Act.put, List.setIfInBounds_toArray, List.set_cons_zero, List.set_cons_succ]
  refine wpAnyH_take (i := 2) (oi := _) (v := ?v92) rfl (by kernel_rfl) (by kernel_rfl) (by kernel_rfl) (fun _ _ _ h => h) (Or.inl ⟨by rfl, ?hy92⟩) trivial ?rest92
  case hy92 => (intro w9 hSw; clear hSw; go_simp; try with_reducible rfl)
  try simp only [Act.put, List.setIfInBounds_toArray, List.set_cons_zero, List.set_cons_succ]
  refine wpAnyH_take (i := 3) (oi := _) (v := ?v93) rfl (by kernel_rfl) (by kernel_rfl) (by kernel_rfl) (fun _ _ _ h => h) (Or.inl ⟨by rfl, ?hy93⟩) trivial ?rest93
  case hy93 => (intro w9 hSw; clear hSw; go_simp; try with_reducible rfl)
  try simp only [Act.put, List.setIfInBounds_toArray, List.set_cons_zero, List.set_cons_succ]
  refine wpAnyH_ready (rs := [4, 5]) (by kernel_rfl) (by simp) ?_
  refine AllReadyH.cons (o := _) rfl (fun K hK => ?_) ?_
  · go_simp
    refine hK.out _ _ trivial (fun hHeld => ?_)
    clear hK K hHeld
    try simp only [Act.put, List.setIfInBounds_toArray, List.set_cons_zero, List.set_cons_succ]
    refine wpAnyH_ready (rs := [5]) (by kernel_rfl) (by simp) ?_
    refine AllReadyH.cons (o := _) rfl (fun K hK => ?_) ?_
    · go_simp
      refine hK.out _ _ trivial (fun hHeld => ?_)
      clear hK K hHeld
      try simp only [Act.put, List.setIfInBounds_toArray, List.set_cons_zero, List.set_cons_succ]
      refine wpAnyH_ready (rs := [6]) (by kernel_rfl) (by simp) ?_
      refine AllReadyH.cons (o := _) rfl (fun K hK => ?_) ?_
      · go_simp
        refine hK.out _ _ trivial (fun hHeld => ?_)
        clear hK K hHeld
        try simp only [Act.put, List.setIfInBounds_toArray, List.set_cons_zero, List.set_cons_succ]
        refine wpAnyH_ready (rs := [7]) (by kernel_rfl) (by simp) ?_
        refine AllReadyH.cons (o := _) rfl (fun K hK => ?_) ?_
        · refine step_append rfl _ _ _ rfl rfl rfl hrun ?_
          refine hK.out _ _ trivial (fun hHeld => ?_)
          clear hK K hHeld
          try simp only [Act.put, List.setIfInBounds_toArray, List.set_cons_zero, List.set_cons_succ]
          refine wpAnyH_ready (rs := [8]) (by kernel_rfl) (by simp) ?_
          refine AllReadyH.cons (o := _) rfl (fun K hK => ?_) ?_
          · go_simp
            refine hK.out _ _ trivial (fun hHeld => ?_)
            clear hK K hHeld
            try simp only [Act.put, List.setIfInBounds_toArray, List.set_cons_zero, List.set_cons_succ]
            refine wpAnyH_ready (rs := [9]) (by kernel_rfl) (by simp) ?_
            refine AllReadyH.cons (o := _) rfl (fun K hK => ?_) ?_
            · go_simp
              refine hK.out _ _ trivial (fun hHeld => ?_)
              clear hK K hHeld
              try simp only [Act.put, List.setIfInBounds_toArray, List.set_cons_zero, List.set_cons_succ]
              refine wpAnyH_ready (rs := [10]) (by kernel_rfl) (by simp) ?_
              refine AllReadyH.cons (o := _) rfl (fun K hK => ?_) ?_
              · go_simp
                refine hK.out _ _ trivial (fun hHeld => ?_)
                clear hK K hHeld
                try simp only [Act.put, List.setIfInBounds_toArray, List.set_cons_zero, List.set_cons_succ]
                refine ⟨by kernel_rfl, ?_⟩
                go_wp2
                go_ret2
                exact HE.out
              exact AllReadyH.nil
            exact AllReadyH.nil
          exact AllReadyH.nil
        exact AllReadyH.nil
      exact AllReadyH.nil
    exact AllReadyH.nil
  refine AllReadyH.cons (o := _) rfl (fun K hK => ?_) ?_
  · go_simp
    refine hK.out _ _ trivial (fun hHeld => ?_)
    clear hK K hHeld
    try simp only [Act.put, List.setIfInBounds_toArray, List.set_cons_zero, List.set_cons_succ]
    refine wpAnyH_ready (rs := [4, 6]) (by kernel_rfl) (by simp) ?_
    refine AllReadyH.cons (o := _) rfl (fun K hK => ?_) ?_
    · go_simp
      refine hK.out _ _ trivial (fun hHeld => ?_)
      clear hK K hHeld
      try simp only [Act.put, List.setIfInBounds_toArray, List.set_cons_zero, List.set_cons_succ]
      refine wpAnyH_ready (rs := [6]) (by kernel_rfl) (by simp) ?_
      refine AllReadyH.cons (o := _) rfl (fun K hK => ?_) ?_
      · go_simp
        refine hK.out _ _ trivial (fun hHeld => ?_)
        clear hK K hHeld
        try simp only [Act.put, List.setIfInBounds_toArray, List.set_cons_zero, List.set_cons_succ]
        refine wpAnyH_ready (rs := [7]) (by kernel_rfl) (by simp) ?_
        refine AllReadyH.cons (o := _) rfl (fun K hK => ?_) ?_
        · refine step_append rfl _ _ _ rfl rfl rfl hrun ?_
          refine hK.out _ _ trivial (fun hHeld => ?_)
          clear hK K hHeld
          try simp only [Act.put, List.setIfInBounds_toArray, List.set_cons_zero, List.set_cons_succ]
          refine wpAnyH_ready (rs := [8]) (by kernel_rfl) (by simp) ?_
          refine AllReadyH.cons (o := _) rfl (fun K hK => ?_) ?_
          · go_simp
            refine hK.out _ _ trivial (fun hHeld => ?_)
            clear hK K hHeld
            try simp only [Act.put, List.setIfInBounds_toArray, List.set_cons_zero, List.set_cons_succ]
            refine wpAnyH_ready (rs := [9]) (by kernel_rfl) (by simp) ?_
            refine AllReadyH.cons (o := _) rfl (fun K hK => ?_) ?_
            · go_simp
              refine hK.out _ _ trivial (fun hHeld => ?_)
              clear hK K hHeld
              try simp only [Act.put, List.setIfInBounds_toArray, List.set_cons_zero, List.set_cons_succ]
              refine wpAnyH_ready (rs := [10]) (by kernel_rfl) (by simp) ?_
              refine AllReadyH.cons (o := _) rfl (fun K hK => ?_) ?_
              · go_simp
                refine hK.out _ _ trivial (fun hHeld => ?_)
                clear hK K hHeld
                try simp only [Act.put, List.setIfInBounds_toArray, List.set_cons_zero, List.set_cons_succ]
                refine ⟨by kernel_rfl, ?_⟩
                go_wp2
                go_ret2
                exact HE.out
              exact AllReadyH.nil
            exact AllReadyH.nil
          exact AllReadyH.nil
        exact AllReadyH.nil
      exact AllReadyH.nil
    refine AllReadyH.cons (o := _) rfl (fun K hK => ?_) ?_
    · go_simp
      refine hK.out _ _ trivial (fun hHeld => ?_)
      clear hK K hHeld
      try simp only [Act.put, List.setIfInBounds_toArray, List.set_cons_zero, List.set_cons_succ]
      refine wpAnyH_ready (rs := [4]) (by kernel_rfl) (by simp) ?_
      refine AllReadyH.cons (o := _) rfl (fun K hK => ?_) ?_
      · go_simp
        refine hK.out _ _ trivial (fun hHeld => ?_)
        clear hK K hHeld
        try simp only [Act.put, List.setIfInBounds_toArray, List.set_cons_zero, List.set_cons_succ]
        refine wpAnyH_ready (rs := [7]) (by kernel_rfl) (by simp) ?_
        refine AllReadyH.cons (o := _) rfl (fun K hK => ?_) ?_
        · refine step_append rfl _ _ _ rfl rfl rfl hrun ?_
          refine hK.out _ _ trivial (fun hHeld => ?_)
          clear hK K hHeld
          try simp only [Act.put, List.setIfInBounds_toArray, List.set_cons_zero, List.set_cons_succ]
          refine wpAnyH_ready (rs := [8]) (by kernel_rfl) (by simp) ?_
          refine AllReadyH.cons (o := _) rfl (fun K hK => ?_) ?_
          · go_simp
            refine hK.out _ _ trivial (fun hHeld => ?_)
            clear hK K hHeld
            try simp only [Act.put, List.setIfInBounds_toArray, List.set_cons_zero, List.set_cons_succ]
            refine wpAnyH_ready (rs := [9]) (by kernel_rfl) (by simp) ?_
            refine AllReadyH.cons (o := _) rfl (fun K hK => ?_) ?_
            · go_simp
              refine hK.out _ _ trivial (fun hHeld => ?_)
              clear hK K hHeld
              try simp only [Act.put, List.setIfInBounds_toArray, List.set_cons_zero, List.set_cons_succ]
              refine wpAnyH_ready (rs := [10]) (by kernel_rfl) (by simp) ?_
              refine AllReadyH.cons (o := _) rfl (fun K hK => ?_) ?_
              · go_simp
                refine hK.out _ _ trivial (fun hHeld => ?_)
                clear hK K hHeld
                try simp only [Act.put, List.setIfInBounds_toArray, List.set_cons_zero, List.set_cons_succ]
                refine ⟨by kernel_rfl, ?_⟩
                go_wp2
                go_ret2
                exact HE.out
              exact AllReadyH.nil
            exact AllReadyH.nil
          exact AllReadyH.nil
        exact AllReadyH.nil
      exact AllReadyH.nil
    exact AllReadyH.nil
  exact AllReadyH.nil
end Go.Proofs.YtehjobjjlldckaaGreat

namespace Go.Proofs.YtehjobjjlldckaaGreat
set_option linter.unusedVariables false
set_option linter.unusedSimpArgs false
open Go.RowKit

theorem Blk.set_turn {g : Nat} (w : World) (j : Nat) (u : Value) : Turn (fun k => k = g) w (w.setCell ⟨g, j, none⟩ u) := (Turn.refl (fun k => k = g) w).set (p := ⟨g, j, none⟩) rfl u
set_option maxRecDepth 100000 in
set_option maxHeartbeats 4000000 in
theorem rcget_none {r d lo hi : Nat} {v : Value} {C : CS} (b : Nat) (hb : b < C.st.n) (hat : atB C.L b = none) (ha : C.st.acts ≤ 1000000) (w : World) (h : RC r d lo hi v C w) :
    Calls Tryz.prog 41 #[.pointer (some ⟨r, 0, none⟩), .int .i64 (b : Int)] w (GetR r d lo hi v C b w) := by
  have mixed : Tryz.prog.follows .mixedOrders = true := by kernel_rfl
  have B := Lib.hid (rblocks_any w h.dev)
  have hn := h.ok.st.hi
  have P := Lib.hid (rplace_none (b : Int) ⟨by omega, by omega⟩ hat w h)
  obtain ⟨w1, hw1⟩ : ∃ w1, w.alloc (.cells (bufC (b : Int) ⟨#[]⟩ false false) 83) = w1 := ⟨_, rfl⟩
  have hb1 : Below w.heap.size w w1 := by rw [← hw1]; exact balloc1 _ _
  have hX1 : Blk w.heap.size (bufC (b : Int) ⟨#[]⟩ false false) 83 w1 := by rw [← hw1]; exact Blk.new _ _ _
  have h1 := h.kept1 hb1
  obtain ⟨fm, fz⟩ := h.free (.cells #[] 0)
  have c0 := h.cells.1
  have RM := Lib.hid (rroom_any ha w1 h1)
  have hsz : w.heap.size < w1.heap.size := by rw [← hw1, size_alloc]; omega
  have HX1 := Lib.hid hX1
  have HB1 := Lib.hid hb1
  have HF := Lib.hid (And.intro fm fz)
  have HSZ := Lib.hid hsz
  have HW1 := Lib.hid hw1
  have HRO := Lib.hid (room_ok h.ok)
  have e : getC C b = if (roomC C).1 = 0 then ((roomC C).2.st.now (b : Int).toNat, 0, { (roomC C).2 with L := (roomC C).2.L ++ [⟨(b : Int).toNat, (roomC C).2.st.now (b : Int).toNat, false, false⟩] }) else (⟨#[]⟩, (roomC C).1, C) := by unfold getC; rw [if_pos (by omega), hat]
  have HE0 := Lib.hid e
  have HAT := Lib.hid (atB_none hat)
  clear h h1 hX1 hb1 fm fz e hat hw1 hsz
  go_enter Tryz.func41, Tryz.ntmps41
  go_wp2_with fail
  refine B.out.mono ?_; rintro e w' ⟨rfl, rfl⟩
  go_wp2_with fail
  refine P.out.mono ?_; rintro e w' ⟨rfl, rfl⟩
  clear B P
  go_upto_region 8 with fail
  rw [HW1.out]
  go_wp2_with fail
  refine RM.out.mono ?_; rintro e w2 ⟨v2, rfl, h2, hw2⟩
  have HWT := Lib.hid hw2
  have hX2 := HX1.out.went hw2 HF.out.1 HF.out.2
  have hg2 : ¬ MR r v2 w.heap.size := hw2.not HF.out.1 HSZ.out
  have H2 := Lib.hid h2
  clear hw2 RM c0
  by_cases hc : (roomC C).1 = 0
  · have HE1 : Hid (getC C b = ((roomC C).2.st.now b, 0, { (roomC C).2 with L := (roomC C).2.L ++ [⟨b, (roomC C).2.st.now b, false, false⟩] })) := Lib.hid (by rw [HE0.out, if_pos hc]; rfl)
    obtain ⟨o1, o2, o3, o4, o5, o6, o7⟩ := HRO.out
    have hlen := o4 hc
    rw [← o3] at hlen
    rw [hc]
    have hnow : (roomC C).2.st.now b = (roomC C).2.st.now b := rfl
    have hbn : b < (roomC C).2.st.n := by rw [o2]; exact hb
    have hsize := o1.st.now b hbn
    have hxn : ∀ z ∈ (roomC C).2.L, z.b ≠ b := fun z hz e => HAT.out z (o5 z hz) (by omega)
    have hrt : rText (roomC C).2.st (b : Int) = (roomC C).2.st.now b := by unfold rText; rw [if_pos (by omega)]; rfl
    have RD := rread_any (b : Int) w2 h2.dev
    rw [hrt] at RD
    have RD := Lib.hid RD
    clear HE0 HRO hc o1 o2 o3 o4 o5 o6 o7 hrt
    generalize roomC C = RC1 at *
    obtain ⟨code1, C1⟩ := RC1
    dsimp only at *
    have c0 := h2.cells.1
    have x1 : w2.cell? ⟨w.heap.size, 1, none⟩ = some (.string ⟨#[]⟩) := hX2.cell 1
    have xf := hX2.frozen 1
    obtain ⟨w4, hw4⟩ : ∃ w4, w2.setCell ⟨w.heap.size, 1, none⟩ (.string (C1.st.now b)) = w4 := ⟨_, rfl⟩
    have t4 : Turn (fun k => k = w.heap.size) w2 w4 := by rw [← hw4]; exact Blk.set_turn w2 1 _
    have hX4 : Blk w.heap.size (bufC (b : Int) (C1.st.now b) false false) 83 w4 := by rw [← hw4]; exact hX2.set 1 _
    have hfz2 : ¬ (lo ≤ w.heap.size ∧ w.heap.size < hi) := HF.out.2
    have h4 := h2.young t4 hg2 hfz2
    obtain ⟨pv, pm, pc, w5, hrun, z2, f2, hfin, hwent, hgx⟩ := h4.push 69 ⟨b, C1.st.now b, false, false⟩ hX4 hg2 hlen hbn hsize hxn
    have hW4 : Went lo hi (MR r v) (MR r v2) w w4 := by
      have k1 : Went lo hi (MR r v) (MR r v2) w w2 := (Went.below HB1.out).trans HWT.out
      have t6 : Turn (Own lo hi (MR r v)) w w4 := k1.turn.then t4 fun i hi he => by omega
      exact ⟨t6, k1.new⟩
    have HE : Hid (GetR r d lo hi v C b w (.returned (.tuple #[.string (C1.st.now b), .int .i64 0])) (w5.setCell ⟨r, 2, none⟩ (.slice pv pm pc))) := Lib.hid ⟨_, by rw [HE1.out], by rw [HE1.out]; exact hfin, hW4.trans hwent⟩
    obtain ⟨ad4, cap4, rfl, -⟩ := h4.shape
    have z4 : w4.drew.cell? ⟨r, 2, none⟩ = some (.slice ad4 C1.L.length cap4) := h4.cells.2.2
    have z4' : ∀ o : Obj, (w4.alloc o).drew.cell? ⟨r, 2, none⟩ = some (.slice ad4 C1.L.length cap4) := fun o => (h4.kept1 (balloc1 w4 o).drew).cells.2.2
    have y0 : w4.drew.cell? ⟨w.heap.size, 0, none⟩ = some (.int .i64 (b : Int)) := hX4.cell 0
    have y1 : w4.drew.cell? ⟨w.heap.size, 1, none⟩ = some (.string (C1.st.now b)) := hX4.cell 1
    have y2 : w4.drew.cell? ⟨w.heap.size, 2, none⟩ = some (.bool false) := hX4.cell 2
    have y3 : w4.drew.cell? ⟨w.heap.size, 3, none⟩ = some (.bool false) := hX4.cell 3
    have HW4 := Lib.hid hw4
    clear hw4 hX4 hg2 hxn hfin hwent h4 t4 hW4 HE1 hlen hbn hsize hnow hfz2 h2 H2 HWT hX2 HX1 HB1 HF HSZ HAT
    generalize C1.st.now b = data at *
    go_wp2_with fail
    refine RD.out.mono ?_; rintro e w' ⟨rfl, rfl⟩
    clear RD
    go_upto_region 12 with fail
    rw [HW4.out]
    refine wp_region_held_drew (S := fun _ => True) mixed trivial (fun hHeld => ?_)
    clear hHeld
    refine wpAnyH_take (i := 0) (oi := _) (v := ?v90) rfl (by kernel_rfl) (by kernel_rfl) (by kernel_rfl) (fun _ _ _ h => h) (Or.inl ⟨by rfl, ?hy90⟩) trivial ?rest90
    case hy90 => (intro w9 hSw; clear hSw; go_simp; try with_reducible rfl)
    try simp only [Act.put, List.setIfInBounds_toArray, List.set_cons_zero, List.set_cons_succ]
    refine wpAnyH_take (i := 1) (oi := _) (v := ?v91) rfl (by kernel_rfl) (by kernel_rfl) (by kernel_rfl) (fun _ _ _ h => h) (Or.inl ⟨by rfl, ?hy91⟩) trivial ?rest91
    case hy91 => (intro w9 hSw; clear hSw; go_simp; try with_reducible rfl)
    try simp only [Act.put, List.setIfInBounds_toArray, List.set_cons_zero, List.set_cons_succ]
    refine wpAnyH_take (i := 2) (oi := _) (v := ?v92) rfl (by kernel_rfl) (by kernel_rfl) (by kernel_rfl) (fun _ _ _ h => h) (Or.inl ⟨by rfl, ?hy92⟩) trivial ?rest92
    case hy92 => (intro w9 hSw; clear hSw; go_simp; try with_reducible rfl)
    try simp only [Act.put, List.setIfInBounds_toArray, List.set_cons_zero, List.set_cons_succ]
    refine wpAnyH_take (i := 3) (oi := _) (v := ?v93) rfl (by kernel_rfl) (by kernel_rfl) (by kernel_rfl) (fun _ _ _ h => h) (Or.inl ⟨by rfl, ?hy93⟩) trivial ?rest93
    case hy93 => (intro w9 hSw; clear hSw; go_simp; try with_reducible rfl)
    try simp only [Act.put, List.setIfInBounds_toArray, List.set_cons_zero, List.set_cons_succ]
    refine wpAnyH_ready (rs := [4, 5]) (by kernel_rfl) (by simp) ?_
    refine AllReadyH.cons (o := _) rfl (fun K hK => ?_) ?_
    · go_simp
      refine hK.out _ _ trivial (fun hHeld => ?_)
      clear hK K hHeld
      try simp only [Act.put, List.setIfInBounds_toArray, List.set_cons_zero, List.set_cons_succ]
      refine wpAnyH_ready (rs := [5]) (by kernel_rfl) (by simp) ?_
      refine AllReadyH.cons (o := _) rfl (fun K hK => ?_) ?_
      · go_simp
        refine hK.out _ _ trivial (fun hHeld => ?_)
        clear hK K hHeld
        try simp only [Act.put, List.setIfInBounds_toArray, List.set_cons_zero, List.set_cons_succ]
        refine wpAnyH_ready (rs := [6]) (by kernel_rfl) (by simp) ?_
        refine AllReadyH.cons (o := _) rfl (fun K hK => ?_) ?_
        · go_simp
          refine hK.out _ _ trivial (fun hHeld => ?_)
          clear hK K hHeld
          try simp only [Act.put, List.setIfInBounds_toArray, List.set_cons_zero, List.set_cons_succ]
          refine wpAnyH_ready (rs := [7]) (by kernel_rfl) (by simp) ?_
          refine AllReadyH.cons (o := _) rfl (fun K hK => ?_) ?_
          · refine step_append rfl _ _ _ rfl rfl rfl hrun ?_
            refine hK.out _ _ trivial (fun hHeld => ?_)
            clear hK K hHeld
            try simp only [Act.put, List.setIfInBounds_toArray, List.set_cons_zero, List.set_cons_succ]
            refine wpAnyH_ready (rs := [8]) (by kernel_rfl) (by simp) ?_
            refine AllReadyH.cons (o := _) rfl (fun K hK => ?_) ?_
            · go_simp
              refine hK.out _ _ trivial (fun hHeld => ?_)
              clear hK K hHeld
              try simp only [Act.put, List.setIfInBounds_toArray, List.set_cons_zero, List.set_cons_succ]
              refine wpAnyH_ready (rs := [9]) (by kernel_rfl) (by simp) ?_
              refine AllReadyH.cons (o := _) rfl (fun K hK => ?_) ?_
              · go_simp
                refine hK.out _ _ trivial (fun hHeld => ?_)
                clear hK K hHeld
                try simp only [Act.put, List.setIfInBounds_toArray, List.set_cons_zero, List.set_cons_succ]
                refine wpAnyH_ready (rs := [10]) (by kernel_rfl) (by simp) ?_
                refine AllReadyH.cons (o := _) rfl (fun K hK => ?_) ?_
                · go_simp
                  refine hK.out _ _ trivial (fun hHeld => ?_)
                  clear hK K hHeld
                  try simp only [Act.put, List.setIfInBounds_toArray, List.set_cons_zero, List.set_cons_succ]
                  refine ⟨by kernel_rfl, ?_⟩
                  go_wp2
                  go_ret2
                  exact HE.out
                exact AllReadyH.nil
              exact AllReadyH.nil
            exact AllReadyH.nil
          exact AllReadyH.nil
        exact AllReadyH.nil
      exact AllReadyH.nil
    refine AllReadyH.cons (o := _) rfl (fun K hK => ?_) ?_
    · go_simp
      refine hK.out _ _ trivial (fun hHeld => ?_)
      clear hK K hHeld
      try simp only [Act.put, List.setIfInBounds_toArray, List.set_cons_zero, List.set_cons_succ]
      refine wpAnyH_ready (rs := [4, 6]) (by kernel_rfl) (by simp) ?_
      refine AllReadyH.cons (o := _) rfl (fun K hK => ?_) ?_
      · go_simp
        refine hK.out _ _ trivial (fun hHeld => ?_)
        clear hK K hHeld
        try simp only [Act.put, List.setIfInBounds_toArray, List.set_cons_zero, List.set_cons_succ]
        refine wpAnyH_ready (rs := [6]) (by kernel_rfl) (by simp) ?_
        refine AllReadyH.cons (o := _) rfl (fun K hK => ?_) ?_
        · go_simp
          refine hK.out _ _ trivial (fun hHeld => ?_)
          clear hK K hHeld
          try simp only [Act.put, List.setIfInBounds_toArray, List.set_cons_zero, List.set_cons_succ]
          refine wpAnyH_ready (rs := [7]) (by kernel_rfl) (by simp) ?_
          refine AllReadyH.cons (o := _) rfl (fun K hK => ?_) ?_
          · refine step_append rfl _ _ _ rfl rfl rfl hrun ?_
            refine hK.out _ _ trivial (fun hHeld => ?_)
            clear hK K hHeld
            try simp only [Act.put, List.setIfInBounds_toArray, List.set_cons_zero, List.set_cons_succ]
            refine wpAnyH_ready (rs := [8]) (by kernel_rfl) (by simp) ?_
            refine AllReadyH.cons (o := _) rfl (fun K hK => ?_) ?_
            · go_simp
              refine hK.out _ _ trivial (fun hHeld => ?_)
              clear hK K hHeld
              try simp only [Act.put, List.setIfInBounds_toArray, List.set_cons_zero, List.set_cons_succ]
              refine wpAnyH_ready (rs := [9]) (by kernel_rfl) (by simp) ?_
              refine AllReadyH.cons (o := _) rfl (fun K hK => ?_) ?_
              · go_simp
                refine hK.out _ _ trivial (fun hHeld => ?_)
                clear hK K hHeld
                try simp only [Act.put, List.setIfInBounds_toArray, List.set_cons_zero, List.set_cons_succ]
                refine wpAnyH_ready (rs := [10]) (by kernel_rfl) (by simp) ?_
                refine AllReadyH.cons (o := _) rfl (fun K hK => ?_) ?_
                · go_simp
                  refine hK.out _ _ trivial (fun hHeld => ?_)
                  clear hK K hHeld
                  try simp only [Act.put, List.setIfInBounds_toArray, List.set_cons_zero, List.set_cons_succ]
                  refine ⟨by kernel_rfl, ?_⟩
                  go_wp2
                  go_ret2
                  exact HE.out
                exact AllReadyH.nil
              exact AllReadyH.nil
            exact AllReadyH.nil
          exact AllReadyH.nil
        exact AllReadyH.nil
      refine AllReadyH.cons (o := _) rfl (fun K hK => ?_) ?_
      · go_simp
        refine hK.out _ _ trivial (fun hHeld => ?_)
        clear hK K hHeld
        try simp only [Act.put, List.setIfInBounds_toArray, List.set_cons_zero, List.set_cons_succ]
        refine wpAnyH_ready (rs := [4]) (by kernel_rfl) (by simp) ?_
        refine AllReadyH.cons (o := _) rfl (fun K hK => ?_) ?_
        · go_simp
          refine hK.out _ _ trivial (fun hHeld => ?_)
          clear hK K hHeld
          try simp only [Act.put, List.setIfInBounds_toArray, List.set_cons_zero, List.set_cons_succ]
          refine wpAnyH_ready (rs := [7]) (by kernel_rfl) (by simp) ?_
          refine AllReadyH.cons (o := _) rfl (fun K hK => ?_) ?_
          · refine step_append rfl _ _ _ rfl rfl rfl hrun ?_
            refine hK.out _ _ trivial (fun hHeld => ?_)
            clear hK K hHeld
            try simp only [Act.put, List.setIfInBounds_toArray, List.set_cons_zero, List.set_cons_succ]
            refine wpAnyH_ready (rs := [8]) (by kernel_rfl) (by simp) ?_
            refine AllReadyH.cons (o := _) rfl (fun K hK => ?_) ?_
            · go_simp
              refine hK.out _ _ trivial (fun hHeld => ?_)
              clear hK K hHeld
              try simp only [Act.put, List.setIfInBounds_toArray, List.set_cons_zero, List.set_cons_succ]
              refine wpAnyH_ready (rs := [9]) (by kernel_rfl) (by simp) ?_
              refine AllReadyH.cons (o := _) rfl (fun K hK => ?_) ?_
              · go_simp
                refine hK.out _ _ trivial (fun hHeld => ?_)
                clear hK K hHeld
                try simp only [Act.put, List.setIfInBounds_toArray, List.set_cons_zero, List.set_cons_succ]
                refine wpAnyH_ready (rs := [10]) (by kernel_rfl) (by simp) ?_
                refine AllReadyH.cons (o := _) rfl (fun K hK => ?_) ?_
                · go_simp
                  refine hK.out _ _ trivial (fun hHeld => ?_)
                  clear hK K hHeld
                  try simp only [Act.put, List.setIfInBounds_toArray, List.set_cons_zero, List.set_cons_succ]
                  refine ⟨by kernel_rfl, ?_⟩
                  go_wp2
                  go_ret2
                  exact HE.out
                exact AllReadyH.nil
              exact AllReadyH.nil
            exact AllReadyH.nil
          exact AllReadyH.nil
        exact AllReadyH.nil
      exact AllReadyH.nil
    exact AllReadyH.nil
  · have HE : Hid (GetR r d lo hi v C b w (.returned (.tuple #[.string ⟨#[]⟩, .int .i64 (roomC C).1])) w2) := Lib.hid ⟨v2, by rw [HE0.out, if_neg hc], by rw [HE0.out, if_neg hc]; have := H2.out; rw [HRO.out.2.2.2.2.2.1 hc] at this; exact this, (Went.below HB1.out).trans HWT.out⟩
    have t1 : ((roomC C).1 != 0) = true := by rw [bne_iff_ne]; exact hc
    clear HE0 HRO h2 H2 HWT hX2 hg2 hc
    generalize (roomC C).1 = code at *
    go_wp2
    go_ret2
    exact HE.out
theorem rcget_raw {r d lo hi : Nat} {v : Value} {C : CS} (b : Int) (hb : I64 b) (ha : C.st.acts ≤ 1000000) (w : World) (h : RC r d lo hi v C w) :
    Calls Tryz.prog 41 #[.pointer (some ⟨r, 0, none⟩), .int .i64 b] w (GetR r d lo hi v C b w) := by
  by_cases h0 : b < 0 ∨ (C.st.n : Int) ≤ b
  · exact rcget_off b hb h0 w h
  · obtain ⟨k, rfl⟩ := Int.eq_ofNat_of_zero_le (show 0 ≤ b by omega)
    cases hat : atB C.L k with
    | none => exact rcget_none k (by omega) hat ha w h
    | some x => exact rcget_some k (by omega) hat w h
end Go.Proofs.YtehjobjjlldckaaGreat

namespace Go.Proofs.YtehjobjjlldckaaGreat
set_option linter.unusedVariables false
set_option linter.unusedSimpArgs false
open Go.RowKit

def PutR (r d lo hi : Nat) (v : Value) (C : CS) (b : Int) (s : ByteArray) (pin : Bool) (w : World) (e : Ending) (w' : World) : Prop :=
  ∃ v', e = .returned (.int .i64 (putC C b s pin).1) ∧ RC r d lo hi v' (putC C b s pin).2 w' ∧ Went lo hi (MR r v) (MR r v') w w'
set_option maxHeartbeats 2000000 in
theorem rcput_off {r d lo hi : Nat} {v : Value} {C : CS} (b : Int) (hb : I64 b) (s : ByteArray) (pin : Bool) (h0 : b < 0 ∨ (C.st.n : Int) ≤ b) (w : World) (h : RC r d lo hi v C w) :
    Calls Tryz.prog 42 #[.pointer (some ⟨r, 0, none⟩), .int .i64 b, .string s, .bool pin] w (PutR r d lo hi v C b s pin w) := by
  have B := Lib.hid (rblocks_any w h.dev)
  have c0 := h.cells.1
  have hn := h.ok.st.hi
  have HE : Hid (PutR r d lo hi v C b s pin w (.returned (.int .i64 60)) w) := Lib.hid (by
    have e : putC C b s pin = (60, C) := by unfold putC; rw [if_neg (by omega)]
    exact ⟨v, by rw [e], by rw [e]; exact h, Went.below (Below.refl _ _)⟩)
  clear h
  by_cases hb0 : b < 0
  · go_enter Tryz.func42, Tryz.ntmps42
    go_wp2
    go_ret
    exact HE.out
  · have hb1 : (0 : Int) ≤ b := by omega
    have hb2 : (C.st.n : Int) ≤ b := by omega
    go_enter Tryz.func42, Tryz.ntmps42
    go_wp2_with fail
    refine B.out.mono ?_; rintro e w1 ⟨rfl, rfl⟩
    go_wp2
    go_ret
    exact HE.out
set_option maxHeartbeats 2000000 in
theorem rcput_size {r d lo hi : Nat} {v : Value} {C : CS} (b : Nat) (hb : b < C.st.n) (s : ByteArray) (hs : s.size ≠ 128) (pin : Bool) (w : World) (h : RC r d lo hi v C w) :
    Calls Tryz.prog 42 #[.pointer (some ⟨r, 0, none⟩), .int .i64 (b : Int), .string s, .bool pin] w (PutR r d lo hi v C b s pin w) := by
  have B := Lib.hid (rblocks_any w h.dev)
  have c0 := h.cells.1
  have hn := h.ok.st.hi
  have HE : Hid (PutR r d lo hi v C b s pin w (.returned (.int .i64 2)) w) := Lib.hid (by
    have e : putC C b s pin = (2, C) := by unfold putC; rw [if_pos (by omega), if_neg hs]
    exact ⟨v, by rw [e], by rw [e]; exact h, Went.below (Below.refl _ _)⟩)
  have t1 : ((s.size : Int) != 128) = true := by rw [bne_iff_ne]; omega
  clear h hs
  go_enter Tryz.func42, Tryz.ntmps42
  go_wp2_with fail
  refine B.out.mono ?_; rintro e w1 ⟨rfl, rfl⟩
  go_wp2
  go_ret
  exact HE.out
set_option maxRecDepth 100000 in
set_option maxHeartbeats 4000000 in
theorem rcput_some {r d lo hi : Nat} {v : Value} {C : CS} (b : Nat) (hb : b < C.st.n) (s : ByteArray) (hs : s.size = 128) (pin : Bool) {x : Buf} (hat : atB C.L b = some x) (w : World) (h : RC r d lo hi v C w) :
    Calls Tryz.prog 42 #[.pointer (some ⟨r, 0, none⟩), .int .i64 (b : Int), .string s, .bool pin] w (PutR r d lo hi v C b s pin w) := by
  have mixed : Tryz.prog.follows .mixedOrders = true := by kernel_rfl
  have B := Lib.hid (rblocks_any w h.dev)
  have t1 : ((s.size : Int) != 128) = false := by rw [bne_eq_false_iff_eq]; omega
  obtain ⟨i, hx, hxb⟩ := at_index hat
  have hn := h.ok.st.hi
  have P := Lib.hid (rplace_some (b : Int) ⟨by omega, by omega⟩ hxb hx w h)
  obtain ⟨hil, hxe⟩ := List.getElem?_eq_some_iff.1 hx
  obtain ⟨ad, cap, rfl, l1, l2, had⟩ := h.shape
  have hm := h.most
  obtain ⟨g, rfl, hg⟩ := had (by omega)
  obtain ⟨w1, hw1⟩ : ∃ w1, w.alloc (.cells (bufC (b : Int) s true pin) 83) = w1 := ⟨_, rfl⟩
  have hb1 : Below w.heap.size w w1 := by rw [← hw1]; exact balloc1 _ _
  have hX1 : Blk w.heap.size (bufC (b : Int) s true pin) 83 w1 := by rw [← hw1]; exact Blk.new _ _ _
  have h1 := h.kept1 hb1
  obtain ⟨fm, fz⟩ := h.free (.cells #[] 0)
  have q4 := (buf_cells h1.row i hil).2.2.2
  rw [hxe] at q4
  have c0 := h.cells.1
  have c2 := h1.cells.2.2
  have hi0 : (0 : Int) ≤ (i : Int) := by omega
  have e : putC C b s pin = (0, { C with L := dropB C.L b ++ [⟨b, s, true, pin || x.pin⟩] }) := by unfold putC; rw [if_pos (by omega), if_pos hs, hat]; rfl
  have HE0 := Lib.hid e
  have H1 := Lib.hid h1
  have HX1 := Lib.hid hX1
  have HB1 := Lib.hid hb1
  have HX := Lib.hid hx
  have HXB := Lib.hid hxb
  have HF := Lib.hid (And.intro fm fz)
  have HSZ := Lib.hid (show w.heap.size < w1.heap.size by rw [← hw1, size_alloc]; omega)
  have HL := Lib.hid (And.intro (dropB_sub h.ok.un hat h.ok.len) hs)
  have HW1 := Lib.hid hw1
  obtain ⟨p2, hp2⟩ : ∃ p2, (pin || x.pin) = p2 := ⟨_, rfl⟩
  have x3 : w1.cell? ⟨w.heap.size, 3, none⟩ = some (.bool pin) := hX1.cell 3
  have xf := hX1.frozen 3
  obtain ⟨w2, hw2⟩ : ∃ w2, w1.setCell ⟨w.heap.size, 3, none⟩ (.bool p2) = w2 := ⟨_, rfl⟩
  have t2 : Turn (fun k => k = w.heap.size) w1 w2 := by rw [← hw2]; exact Blk.set_turn w1 3 _
  have hX2 : Blk w.heap.size (bufC (b : Int) s true p2) 83 w2 := by rw [← hw2]; exact hX1.set 3 _
  have h2 := h1.young t2 fm fz
  have WO := Lib.hid (rwithout_any i hil w2 h2)
  have HX2 := Lib.hid hX2
  have HT2 := Lib.hid t2
  have hs2 := t2.size
  have fzr : ∀ w3, Below w2.heap.size w2 w3 → w3.frozen? ⟨r, 2, none⟩ = false := fun w3 b => (h2.blk.kept1 b).frozen 2
  have czr : ∀ w3, Below w2.heap.size w2 w3 → w3.cell? ⟨r, 2, none⟩ = some (.slice (some ⟨g, 0, none⟩) C.L.length cap) := fun w3 b => (h2.blk.kept1 b).cell 2
  have H2 := Lib.hid h2
  have HW2 := Lib.hid hw2
  have HE1 : Hid (putC C b s pin = (0, { C with L := dropB C.L b ++ [⟨b, s, true, p2⟩] })) := Lib.hid (by rw [e, hp2])
  clear h h1 hX1 hb1 fm fz e hat hx hxe hw1 hs hxb hX2 t2 h2 hw2 HE0
  cases pin with
  | true =>
    obtain rfl : p2 = true := by rw [← hp2]; rfl
    clear hp2 q4
    go_enter Tryz.func42, Tryz.ntmps42
    go_wp2_with fail
    refine B.out.mono ?_; rintro e w' ⟨rfl, rfl⟩
    go_wp2_with fail
    refine P.out.mono ?_; rintro e w' ⟨rfl, rfl⟩
    clear B P
    go_upto_region 8 with fail
    rw [HW1.out]
    go_upto_region 9 with fail
    rw [HW2.out]
    go_wp2_with fail
    refine WO.out.mono ?_; rintro e w3 ⟨av, m9, cv, rfl, hrow, b3⟩
    have f1 := fzr w3 b3
    have z1 := czr w3 b3
    obtain ⟨w4, hw4⟩ : ∃ w4, w3.setCell ⟨r, 2, none⟩ (.slice av m9 cv) = w4 := ⟨_, rfl⟩
    have HZ := H2.out.less HX.out hrow b3
    rw [hw4, HXB.out] at HZ
    have hX4 : Blk w.heap.size (bufC (b : Int) s true true) 83 w4 := HX2.out.went HZ.2 HF.out.1 HF.out.2
    have hg4 : ¬ MR r (.slice av m9 cv) w.heap.size := HZ.2.not HF.out.1 (by have := HSZ.out; omega)
    have hxn : ∀ z ∈ dropB C.L (b : Int), z.b ≠ b := fun z hz e => (dropB_mem.1 hz).2 (by omega)
    obtain ⟨pv, pm, pc, w5, hrun, z2, f2, hfin, hwent, hgx⟩ := HZ.1.push 69 ⟨b, s, true, true⟩ hX4 hg4 HL.out.1 hb HL.out.2 hxn
    have HE : Hid (PutR r d lo hi (.slice (some ⟨g, 0, none⟩) C.L.length cap) C b s true w (.returned (.int .i64 0)) (w5.setCell ⟨r, 2, none⟩ (.slice pv pm pc))) := Lib.hid ⟨_, by rw [HE1.out], by rw [HE1.out]; exact hfin, (went_new HB1.out HT2.out (Nat.le_refl _) HZ.2).trans hwent⟩
    have z4 : w4.drew.cell? ⟨r, 2, none⟩ = some (.slice av m9 cv) := HZ.1.cells.2.2
    have z4' : ∀ o : Obj, (w4.alloc o).drew.cell? ⟨r, 2, none⟩ = some (.slice av m9 cv) := fun o => (HZ.1.kept1 (balloc1 w4 o).drew).cells.2.2
    have y0 : w4.drew.cell? ⟨w.heap.size, 0, none⟩ = some (.int .i64 (b : Int)) := hX4.cell 0
    have y1 : w4.drew.cell? ⟨w.heap.size, 1, none⟩ = some (.string s) := hX4.cell 1
    have y2 : w4.drew.cell? ⟨w.heap.size, 2, none⟩ = some (.bool true) := hX4.cell 2
    have y3 : w4.drew.cell? ⟨w.heap.size, 3, none⟩ = some (.bool true) := hX4.cell 3
    have HW4 := Lib.hid hw4
    clear hw4 HZ hX4 hg4 hxn hfin hwent hrow b3 HX HL HF WO HX2 HT2 H2 H1 HX1 HB1 fzr czr HXB
    go_upto_region 13 with fail
    rw [HW4.out]
    refine wp_region_held_drew (S := fun _ => True) mixed trivial (fun hHeld => ?_)
    clear hHeld
    refine wpAnyH_take (i := 0) (oi := _) (v := ?v90) rfl (by kernel_rfl) (by kernel_rfl) (by kernel_rfl) (fun _ _ _ h => h) (Or.inl ⟨by rfl, ?hy90⟩) trivial ?rest90
    case hy90 => (intro w9 hSw; clear hSw; go_simp; try with_reducible rfl)
    try simp only [Act.put, List.setIfInBounds_toArray, List.set_cons_zero, List.set_cons_succ]
    refine wpAnyH_take (i := 1) (oi := _) (v := ?v91) rfl (by kernel_rfl) (by kernel_rfl) (by kernel_rfl) (fun _ _ _ h => h) (Or.inl ⟨by rfl, ?hy91⟩) trivial ?rest91
    case hy91 => (intro w9 hSw; clear hSw; go_simp; try with_reducible rfl)
    try simp only [Act.put, List.setIfInBounds_toArray, List.set_cons_zero, List.set_cons_succ]
    refine wpAnyH_take (i := 2) (oi := _) (v := ?v92) rfl (by kernel_rfl) (by kernel_rfl) (by kernel_rfl) (fun _ _ _ h => h) (Or.inl ⟨by rfl, ?hy92⟩) trivial ?rest92
    case hy92 => (intro w9 hSw; clear hSw; go_simp; try with_reducible rfl)
    try simp only [Act.put, List.setIfInBounds_toArray, List.set_cons_zero, List.set_cons_succ]
    refine wpAnyH_take (i := 3) (oi := _) (v := ?v93) rfl (by kernel_rfl) (by kernel_rfl) (by kernel_rfl) (fun _ _ _ h => h) (Or.inl ⟨by rfl, ?hy93⟩) trivial ?rest93
    case hy93 => (intro w9 hSw; clear hSw; go_simp; try with_reducible rfl)
    try simp only [Act.put, List.setIfInBounds_toArray, List.set_cons_zero, List.set_cons_succ]
    refine wpAnyH_ready (rs := [4, 5]) (by kernel_rfl) (by simp) ?_
    refine AllReadyH.cons (o := _) rfl (fun K hK => ?_) ?_
    · go_simp
      refine hK.out _ _ trivial (fun hHeld => ?_)
      clear hK K hHeld
      try simp only [Act.put, List.setIfInBounds_toArray, List.set_cons_zero, List.set_cons_succ]
      refine wpAnyH_ready (rs := [5]) (by kernel_rfl) (by simp) ?_
      refine AllReadyH.cons (o := _) rfl (fun K hK => ?_) ?_
      · go_simp
        refine hK.out _ _ trivial (fun hHeld => ?_)
        clear hK K hHeld
        try simp only [Act.put, List.setIfInBounds_toArray, List.set_cons_zero, List.set_cons_succ]
        refine wpAnyH_ready (rs := [6]) (by kernel_rfl) (by simp) ?_
        refine AllReadyH.cons (o := _) rfl (fun K hK => ?_) ?_
        · go_simp
          refine hK.out _ _ trivial (fun hHeld => ?_)
          clear hK K hHeld
          try simp only [Act.put, List.setIfInBounds_toArray, List.set_cons_zero, List.set_cons_succ]
          refine wpAnyH_ready (rs := [7]) (by kernel_rfl) (by simp) ?_
          refine AllReadyH.cons (o := _) rfl (fun K hK => ?_) ?_
          · refine step_append rfl _ _ _ rfl rfl rfl hrun ?_
            refine hK.out _ _ trivial (fun hHeld => ?_)
            clear hK K hHeld
            try simp only [Act.put, List.setIfInBounds_toArray, List.set_cons_zero, List.set_cons_succ]
            refine wpAnyH_ready (rs := [8]) (by kernel_rfl) (by simp) ?_
            refine AllReadyH.cons (o := _) rfl (fun K hK => ?_) ?_
            · go_simp
              refine hK.out _ _ trivial (fun hHeld => ?_)
              clear hK K hHeld
              try simp only [Act.put, List.setIfInBounds_toArray, List.set_cons_zero, List.set_cons_succ]
              refine wpAnyH_ready (rs := [9]) (by kernel_rfl) (by simp) ?_
              refine AllReadyH.cons (o := _) rfl (fun K hK => ?_) ?_
              · go_simp
                refine hK.out _ _ trivial (fun hHeld => ?_)
                clear hK K hHeld
                try simp only [Act.put, List.setIfInBounds_toArray, List.set_cons_zero, List.set_cons_succ]
                refine wpAnyH_ready (rs := [10]) (by kernel_rfl) (by simp) ?_
                refine AllReadyH.cons (o := _) rfl (fun K hK => ?_) ?_
                · go_simp
                  refine hK.out _ _ trivial (fun hHeld => ?_)
                  clear hK K hHeld
                  try simp only [Act.put, List.setIfInBounds_toArray, List.set_cons_zero, List.set_cons_succ]
                  refine ⟨by kernel_rfl, ?_⟩
                  go_wp2
                  go_ret
                  exact HE.out
                exact AllReadyH.nil
              exact AllReadyH.nil
            exact AllReadyH.nil
          exact AllReadyH.nil
        exact AllReadyH.nil
      exact AllReadyH.nil
    refine AllReadyH.cons (o := _) rfl (fun K hK => ?_) ?_
    · go_simp
      refine hK.out _ _ trivial (fun hHeld => ?_)
      clear hK K hHeld
      try simp only [Act.put, List.setIfInBounds_toArray, List.set_cons_zero, List.set_cons_succ]
      refine wpAnyH_ready (rs := [4, 6]) (by kernel_rfl) (by simp) ?_
      refine AllReadyH.cons (o := _) rfl (fun K hK => ?_) ?_
      · go_simp
        refine hK.out _ _ trivial (fun hHeld => ?_)
        clear hK K hHeld
        try simp only [Act.put, List.setIfInBounds_toArray, List.set_cons_zero, List.set_cons_succ]
        refine wpAnyH_ready (rs := [6]) (by kernel_rfl) (by simp) ?_
        refine AllReadyH.cons (o := _) rfl (fun K hK => ?_) ?_
        · go_simp
          refine hK.out _ _ trivial (fun hHeld => ?_)
          clear hK K hHeld
          try simp only [Act.put, List.setIfInBounds_toArray, List.set_cons_zero, List.set_cons_succ]
          refine wpAnyH_ready (rs := [7]) (by kernel_rfl) (by simp) ?_
          refine AllReadyH.cons (o := _) rfl (fun K hK => ?_) ?_
          · refine step_append rfl _ _ _ rfl rfl rfl hrun ?_
            refine hK.out _ _ trivial (fun hHeld => ?_)
            clear hK K hHeld
            try simp only [Act.put, List.setIfInBounds_toArray, List.set_cons_zero, List.set_cons_succ]
            refine wpAnyH_ready (rs := [8]) (by kernel_rfl) (by simp) ?_
            refine AllReadyH.cons (o := _) rfl (fun K hK => ?_) ?_
            · go_simp
              refine hK.out _ _ trivial (fun hHeld => ?_)
              clear hK K hHeld
              try simp only [Act.put, List.setIfInBounds_toArray, List.set_cons_zero, List.set_cons_succ]
              refine wpAnyH_ready (rs := [9]) (by kernel_rfl) (by simp) ?_
              refine AllReadyH.cons (o := _) rfl (fun K hK => ?_) ?_
              · go_simp
                refine hK.out _ _ trivial (fun hHeld => ?_)
                clear hK K hHeld
                try simp only [Act.put, List.setIfInBounds_toArray, List.set_cons_zero, List.set_cons_succ]
                refine wpAnyH_ready (rs := [10]) (by kernel_rfl) (by simp) ?_
                refine AllReadyH.cons (o := _) rfl (fun K hK => ?_) ?_
                · go_simp
                  refine hK.out _ _ trivial (fun hHeld => ?_)
                  clear hK K hHeld
                  try simp only [Act.put, List.setIfInBounds_toArray, List.set_cons_zero, List.set_cons_succ]
                  refine ⟨by kernel_rfl, ?_⟩
                  go_wp2
                  go_ret
                  exact HE.out
                exact AllReadyH.nil
              exact AllReadyH.nil
            exact AllReadyH.nil
          exact AllReadyH.nil
        exact AllReadyH.nil
      refine AllReadyH.cons (o := _) rfl (fun K hK => ?_) ?_
      · go_simp
        refine hK.out _ _ trivial (fun hHeld => ?_)
        clear hK K hHeld
        try simp only [Act.put, List.setIfInBounds_toArray, List.set_cons_zero, List.set_cons_succ]
        refine wpAnyH_ready (rs := [4]) (by kernel_rfl) (by simp) ?_
        refine AllReadyH.cons (o := _) rfl (fun K hK => ?_) ?_
        · go_simp
          refine hK.out _ _ trivial (fun hHeld => ?_)
          clear hK K hHeld
          try simp only [Act.put, List.setIfInBounds_toArray, List.set_cons_zero, List.set_cons_succ]
          refine wpAnyH_ready (rs := [7]) (by kernel_rfl) (by simp) ?_
          refine AllReadyH.cons (o := _) rfl (fun K hK => ?_) ?_
          · refine step_append rfl _ _ _ rfl rfl rfl hrun ?_
            refine hK.out _ _ trivial (fun hHeld => ?_)
            clear hK K hHeld
            try simp only [Act.put, List.setIfInBounds_toArray, List.set_cons_zero, List.set_cons_succ]
            refine wpAnyH_ready (rs := [8]) (by kernel_rfl) (by simp) ?_
            refine AllReadyH.cons (o := _) rfl (fun K hK => ?_) ?_
            · go_simp
              refine hK.out _ _ trivial (fun hHeld => ?_)
              clear hK K hHeld
              try simp only [Act.put, List.setIfInBounds_toArray, List.set_cons_zero, List.set_cons_succ]
              refine wpAnyH_ready (rs := [9]) (by kernel_rfl) (by simp) ?_
              refine AllReadyH.cons (o := _) rfl (fun K hK => ?_) ?_
              · go_simp
                refine hK.out _ _ trivial (fun hHeld => ?_)
                clear hK K hHeld
                try simp only [Act.put, List.setIfInBounds_toArray, List.set_cons_zero, List.set_cons_succ]
                refine wpAnyH_ready (rs := [10]) (by kernel_rfl) (by simp) ?_
                refine AllReadyH.cons (o := _) rfl (fun K hK => ?_) ?_
                · go_simp
                  refine hK.out _ _ trivial (fun hHeld => ?_)
                  clear hK K hHeld
                  try simp only [Act.put, List.setIfInBounds_toArray, List.set_cons_zero, List.set_cons_succ]
                  refine ⟨by kernel_rfl, ?_⟩
                  go_wp2
                  go_ret
                  exact HE.out
                exact AllReadyH.nil
              exact AllReadyH.nil
            exact AllReadyH.nil
          exact AllReadyH.nil
        exact AllReadyH.nil
      exact AllReadyH.nil
    exact AllReadyH.nil
  | false =>
    obtain rfl : p2 = x.pin := hp2.symm.trans (Bool.false_or _)
    clear hp2
    go_enter Tryz.func42, Tryz.ntmps42
    go_wp2_with fail
    refine B.out.mono ?_; rintro e w' ⟨rfl, rfl⟩
    go_wp2_with fail
    refine P.out.mono ?_; rintro e w' ⟨rfl, rfl⟩
    clear B P
    go_upto_region 8 with fail
    rw [HW1.out]
    go_upto_region 9 with fail
    rw [HW2.out]
    generalize x.pin = p2 at *
    go_wp2_with fail
    refine WO.out.mono ?_; rintro e w3 ⟨av, m9, cv, rfl, hrow, b3⟩
    have f1 := fzr w3 b3
    have z1 := czr w3 b3
    obtain ⟨w4, hw4⟩ : ∃ w4, w3.setCell ⟨r, 2, none⟩ (.slice av m9 cv) = w4 := ⟨_, rfl⟩
    have HZ := H2.out.less HX.out hrow b3
    rw [hw4, HXB.out] at HZ
    have hX4 : Blk w.heap.size (bufC (b : Int) s true p2) 83 w4 := HX2.out.went HZ.2 HF.out.1 HF.out.2
    have hg4 : ¬ MR r (.slice av m9 cv) w.heap.size := HZ.2.not HF.out.1 (by have := HSZ.out; omega)
    have hxn : ∀ z ∈ dropB C.L (b : Int), z.b ≠ b := fun z hz e => (dropB_mem.1 hz).2 (by omega)
    obtain ⟨pv, pm, pc, w5, hrun, z2, f2, hfin, hwent, hgx⟩ := HZ.1.push 69 ⟨b, s, true, p2⟩ hX4 hg4 HL.out.1 hb HL.out.2 hxn
    have HE : Hid (PutR r d lo hi (.slice (some ⟨g, 0, none⟩) C.L.length cap) C b s false w (.returned (.int .i64 0)) (w5.setCell ⟨r, 2, none⟩ (.slice pv pm pc))) := Lib.hid ⟨_, by rw [HE1.out], by rw [HE1.out]; exact hfin, (went_new HB1.out HT2.out (Nat.le_refl _) HZ.2).trans hwent⟩
    have z4 : w4.drew.cell? ⟨r, 2, none⟩ = some (.slice av m9 cv) := HZ.1.cells.2.2
    have z4' : ∀ o : Obj, (w4.alloc o).drew.cell? ⟨r, 2, none⟩ = some (.slice av m9 cv) := fun o => (HZ.1.kept1 (balloc1 w4 o).drew).cells.2.2
    have y0 : w4.drew.cell? ⟨w.heap.size, 0, none⟩ = some (.int .i64 (b : Int)) := hX4.cell 0
    have y1 : w4.drew.cell? ⟨w.heap.size, 1, none⟩ = some (.string s) := hX4.cell 1
    have y2 : w4.drew.cell? ⟨w.heap.size, 2, none⟩ = some (.bool true) := hX4.cell 2
    have y3 : w4.drew.cell? ⟨w.heap.size, 3, none⟩ = some (.bool p2) := hX4.cell 3
    have HW4 := Lib.hid hw4
    clear hw4 HZ hX4 hg4 hxn hfin hwent hrow b3 HX HL HF WO HX2 HT2 H2 H1 HX1 HB1 fzr czr HXB
    go_upto_region 13 with fail
    rw [HW4.out]
    refine wp_region_held_drew (S := fun _ => True) mixed trivial (fun hHeld => ?_)
    clear hHeld
    refine wpAnyH_take (i := 0) (oi := _) (v := ?v9z0) rfl (by kernel_rfl) (by kernel_rfl) (by kernel_rfl) (fun _ _ _ h => h) (Or.inl ⟨by rfl, ?hy9z0⟩) trivial ?rest9z0
    case hy9z0 => (intro w9 hSw; clear hSw; go_simp; try with_reducible rfl)
    try simp only [Act.put, List.setIfInBounds_toArray, List.set_cons_zero, List.set_cons_succ]
    refine wpAnyH_take (i := 1) (oi := _) (v := ?v9z1) rfl (by kernel_rfl) (by kernel_rfl) (by kernel_rfl) (fun _ _ _ h => h) (Or.inl ⟨by rfl, ?hy9z1⟩) trivial ?rest9z1
    case hy9z1 => (intro w9 hSw; clear hSw; go_simp; try with_reducible rfl)
    try simp only [Act.put, List.setIfInBounds_toArray, List.set_cons_zero, List.set_cons_succ]
    refine wpAnyH_take (i := 2) (oi := _) (v := ?v9z2) rfl (by kernel_rfl) (by kernel_rfl) (by kernel_rfl) (fun _ _ _ h => h) (Or.inl ⟨by rfl, ?hy9z2⟩) trivial ?rest9z2
    case hy9z2 => (intro w9 hSw; clear hSw; go_simp; try with_reducible rfl)
    try simp only [Act.put, List.setIfInBounds_toArray, List.set_cons_zero, List.set_cons_succ]
    refine wpAnyH_take (i := 3) (oi := _) (v := ?v9z3) rfl (by kernel_rfl) (by kernel_rfl) (by kernel_rfl) (fun _ _ _ h => h) (Or.inl ⟨by rfl, ?hy9z3⟩) trivial ?rest9z3
    case hy9z3 => (intro w9 hSw; clear hSw; go_simp; try with_reducible rfl)
    try simp only [Act.put, List.setIfInBounds_toArray, List.set_cons_zero, List.set_cons_succ]
    refine wpAnyH_ready (rs := [4, 5]) (by kernel_rfl) (by simp) ?_
    refine AllReadyH.cons (o := _) rfl (fun K hK => ?_) ?_
    · go_simp
      refine hK.out _ _ trivial (fun hHeld => ?_)
      clear hK K hHeld
      try simp only [Act.put, List.setIfInBounds_toArray, List.set_cons_zero, List.set_cons_succ]
      refine wpAnyH_ready (rs := [5]) (by kernel_rfl) (by simp) ?_
      refine AllReadyH.cons (o := _) rfl (fun K hK => ?_) ?_
      · go_simp
        refine hK.out _ _ trivial (fun hHeld => ?_)
        clear hK K hHeld
        try simp only [Act.put, List.setIfInBounds_toArray, List.set_cons_zero, List.set_cons_succ]
        refine wpAnyH_ready (rs := [6]) (by kernel_rfl) (by simp) ?_
        refine AllReadyH.cons (o := _) rfl (fun K hK => ?_) ?_
        · go_simp
          refine hK.out _ _ trivial (fun hHeld => ?_)
          clear hK K hHeld
          try simp only [Act.put, List.setIfInBounds_toArray, List.set_cons_zero, List.set_cons_succ]
          refine wpAnyH_ready (rs := [7]) (by kernel_rfl) (by simp) ?_
          refine AllReadyH.cons (o := _) rfl (fun K hK => ?_) ?_
          · refine step_append rfl _ _ _ rfl rfl rfl hrun ?_
            refine hK.out _ _ trivial (fun hHeld => ?_)
            clear hK K hHeld
            try simp only [Act.put, List.setIfInBounds_toArray, List.set_cons_zero, List.set_cons_succ]
            refine wpAnyH_ready (rs := [8]) (by kernel_rfl) (by simp) ?_
            refine AllReadyH.cons (o := _) rfl (fun K hK => ?_) ?_
            · go_simp
              refine hK.out _ _ trivial (fun hHeld => ?_)
              clear hK K hHeld
              try simp only [Act.put, List.setIfInBounds_toArray, List.set_cons_zero, List.set_cons_succ]
              refine wpAnyH_ready (rs := [9]) (by kernel_rfl) (by simp) ?_
              refine AllReadyH.cons (o := _) rfl (fun K hK => ?_) ?_
              · go_simp
                refine hK.out _ _ trivial (fun hHeld => ?_)
                clear hK K hHeld
                try simp only [Act.put, List.setIfInBounds_toArray, List.set_cons_zero, List.set_cons_succ]
                refine wpAnyH_ready (rs := [10]) (by kernel_rfl) (by simp) ?_
                refine AllReadyH.cons (o := _) rfl (fun K hK => ?_) ?_
                · go_simp
                  refine hK.out _ _ trivial (fun hHeld => ?_)
                  clear hK K hHeld
                  try simp only [Act.put, List.setIfInBounds_toArray, List.set_cons_zero, List.set_cons_succ]
                  refine ⟨by kernel_rfl, ?_⟩
                  go_wp2
                  go_ret
                  exact HE.out
                exact AllReadyH.nil
              exact AllReadyH.nil
            exact AllReadyH.nil
          exact AllReadyH.nil
        exact AllReadyH.nil
      exact AllReadyH.nil
    refine AllReadyH.cons (o := _) rfl (fun K hK => ?_) ?_
    · go_simp
      refine hK.out _ _ trivial (fun hHeld => ?_)
      clear hK K hHeld
      try simp only [Act.put, List.setIfInBounds_toArray, List.set_cons_zero, List.set_cons_succ]
      refine wpAnyH_ready (rs := [4, 6]) (by kernel_rfl) (by simp) ?_
      refine AllReadyH.cons (o := _) rfl (fun K hK => ?_) ?_
      · go_simp
        refine hK.out _ _ trivial (fun hHeld => ?_)
        clear hK K hHeld
        try simp only [Act.put, List.setIfInBounds_toArray, List.set_cons_zero, List.set_cons_succ]
        refine wpAnyH_ready (rs := [6]) (by kernel_rfl) (by simp) ?_
        refine AllReadyH.cons (o := _) rfl (fun K hK => ?_) ?_
        · go_simp
          refine hK.out _ _ trivial (fun hHeld => ?_)
          clear hK K hHeld
          try simp only [Act.put, List.setIfInBounds_toArray, List.set_cons_zero, List.set_cons_succ]
          refine wpAnyH_ready (rs := [7]) (by kernel_rfl) (by simp) ?_
          refine AllReadyH.cons (o := _) rfl (fun K hK => ?_) ?_
          · refine step_append rfl _ _ _ rfl rfl rfl hrun ?_
            refine hK.out _ _ trivial (fun hHeld => ?_)
            clear hK K hHeld
            try simp only [Act.put, List.setIfInBounds_toArray, List.set_cons_zero, List.set_cons_succ]
            refine wpAnyH_ready (rs := [8]) (by kernel_rfl) (by simp) ?_
            refine AllReadyH.cons (o := _) rfl (fun K hK => ?_) ?_
            · go_simp
              refine hK.out _ _ trivial (fun hHeld => ?_)
              clear hK K hHeld
              try simp only [Act.put, List.setIfInBounds_toArray, List.set_cons_zero, List.set_cons_succ]
              refine wpAnyH_ready (rs := [9]) (by kernel_rfl) (by simp) ?_
              refine AllReadyH.cons (o := _) rfl (fun K hK => ?_) ?_
              · go_simp
                refine hK.out _ _ trivial (fun hHeld => ?_)
                clear hK K hHeld
                try simp only [Act.put, List.setIfInBounds_toArray, List.set_cons_zero, List.set_cons_succ]
                refine wpAnyH_ready (rs := [10]) (by kernel_rfl) (by simp) ?_
                refine AllReadyH.cons (o := _) rfl (fun K hK => ?_) ?_
                · go_simp
                  refine hK.out _ _ trivial (fun hHeld => ?_)
                  clear hK K hHeld
                  try simp only [Act.put, List.setIfInBounds_toArray, List.set_cons_zero, List.set_cons_succ]
                  refine ⟨by kernel_rfl, ?_⟩
                  go_wp2
                  go_ret
                  exact HE.out
                exact AllReadyH.nil
              exact AllReadyH.nil
            exact AllReadyH.nil
          exact AllReadyH.nil
        exact AllReadyH.nil
      refine AllReadyH.cons (o := _) rfl (fun K hK => ?_) ?_
      · go_simp
        refine hK.out _ _ trivial (fun hHeld => ?_)
        clear hK K hHeld
        try simp only [Act.put, List.setIfInBounds_toArray, List.set_cons_zero, List.set_cons_succ]
        refine wpAnyH_ready (rs := [4]) (by kernel_rfl) (by simp) ?_
        refine AllReadyH.cons (o := _) rfl (fun K hK => ?_) ?_
        · go_simp
          refine hK.out _ _ trivial (fun hHeld => ?_)
          clear hK K hHeld
          try simp only [Act.put, List.setIfInBounds_toArray, List.set_cons_zero, List.set_cons_succ]
          refine wpAnyH_ready (rs := [7]) (by kernel_rfl) (by simp) ?_
          refine AllReadyH.cons (o := _) rfl (fun K hK => ?_) ?_
          · refine step_append rfl _ _ _ rfl rfl rfl hrun ?_
            refine hK.out _ _ trivial (fun hHeld => ?_)
            clear hK K hHeld
            try simp only [Act.put, List.setIfInBounds_toArray, List.set_cons_zero, List.set_cons_succ]
            refine wpAnyH_ready (rs := [8]) (by kernel_rfl) (by simp) ?_
            refine AllReadyH.cons (o := _) rfl (fun K hK => ?_) ?_
            · go_simp
              refine hK.out _ _ trivial (fun hHeld => ?_)
              clear hK K hHeld
              try simp only [Act.put, List.setIfInBounds_toArray, List.set_cons_zero, List.set_cons_succ]
              refine wpAnyH_ready (rs := [9]) (by kernel_rfl) (by simp) ?_
              refine AllReadyH.cons (o := _) rfl (fun K hK => ?_) ?_
              · go_simp
                refine hK.out _ _ trivial (fun hHeld => ?_)
                clear hK K hHeld
                try simp only [Act.put, List.setIfInBounds_toArray, List.set_cons_zero, List.set_cons_succ]
                refine wpAnyH_ready (rs := [10]) (by kernel_rfl) (by simp) ?_
                refine AllReadyH.cons (o := _) rfl (fun K hK => ?_) ?_
                · go_simp
                  refine hK.out _ _ trivial (fun hHeld => ?_)
                  clear hK K hHeld
                  try simp only [Act.put, List.setIfInBounds_toArray, List.set_cons_zero, List.set_cons_succ]
                  refine ⟨by kernel_rfl, ?_⟩
                  go_wp2
                  go_ret
                  exact HE.out
                exact AllReadyH.nil
              exact AllReadyH.nil
            exact AllReadyH.nil
          exact AllReadyH.nil
        exact AllReadyH.nil
      exact AllReadyH.nil
    exact AllReadyH.nil
set_option maxRecDepth 100000 in
set_option maxHeartbeats 4000000 in
theorem rcput_none {r d lo hi : Nat} {v : Value} {C : CS} (b : Nat) (hb : b < C.st.n) (s : ByteArray) (hs : s.size = 128) (pin : Bool) (hat : atB C.L b = none) (ha : C.st.acts ≤ 1000000) (w : World) (h : RC r d lo hi v C w) :
    Calls Tryz.prog 42 #[.pointer (some ⟨r, 0, none⟩), .int .i64 (b : Int), .string s, .bool pin] w (PutR r d lo hi v C b s pin w) := by
  have mixed : Tryz.prog.follows .mixedOrders = true := by kernel_rfl
  have B := Lib.hid (rblocks_any w h.dev)
  have t1 : ((s.size : Int) != 128) = false := by rw [bne_eq_false_iff_eq]; omega
  have hn := h.ok.st.hi
  have P := Lib.hid (rplace_none (b : Int) ⟨by omega, by omega⟩ hat w h)
  obtain ⟨w1, hw1⟩ : ∃ w1, w.alloc (.cells (bufC (b : Int) s true pin) 83) = w1 := ⟨_, rfl⟩
  have hb1 : Below w.heap.size w w1 := by rw [← hw1]; exact balloc1 _ _
  have hX1 : Blk w.heap.size (bufC (b : Int) s true pin) 83 w1 := by rw [← hw1]; exact Blk.new _ _ _
  have h1 := h.kept1 hb1
  obtain ⟨fm, fz⟩ := h.free (.cells #[] 0)
  have c0 := h.cells.1
  have RM := Lib.hid (rroom_any ha w1 h1)
  have hsz : w.heap.size < w1.heap.size := by rw [← hw1, size_alloc]; omega
  have HX1 := Lib.hid hX1
  have HB1 := Lib.hid hb1
  have HF := Lib.hid (And.intro fm fz)
  have HSZ := Lib.hid hsz
  have HW1 := Lib.hid hw1
  have HRO := Lib.hid (room_ok h.ok)
  have e : putC C b s pin = if (roomC C).1 = 0 then (0, { (roomC C).2 with L := (roomC C).2.L ++ [⟨(b : Int).toNat, s, true, pin⟩] }) else ((roomC C).1, C) := by unfold putC; rw [if_pos (by omega), if_pos hs, hat]
  have HE0 := Lib.hid e
  have HAT := Lib.hid (atB_none hat)
  have HS := Lib.hid hs
  clear h h1 hX1 hb1 fm fz e hat hw1 hsz hs
  go_enter Tryz.func42, Tryz.ntmps42
  go_wp2_with fail
  refine B.out.mono ?_; rintro e w' ⟨rfl, rfl⟩
  go_wp2_with fail
  refine P.out.mono ?_; rintro e w' ⟨rfl, rfl⟩
  clear B P
  go_upto_region 10 with fail
  rw [HW1.out]
  go_wp2_with fail
  refine RM.out.mono ?_; rintro e w4 ⟨v2, rfl, h4, hw2⟩
  have HWT := Lib.hid hw2
  have hX4 := HX1.out.went hw2 HF.out.1 HF.out.2
  have hg2 : ¬ MR r v2 w.heap.size := hw2.not HF.out.1 HSZ.out
  have H4 := Lib.hid h4
  clear hw2 RM c0
  by_cases hc : (roomC C).1 = 0
  · have HE1 : Hid (putC C b s pin = (0, { (roomC C).2 with L := (roomC C).2.L ++ [⟨b, s, true, pin⟩] })) := Lib.hid (by rw [HE0.out, if_pos hc]; rfl)
    obtain ⟨o1, o2, o3, o4, o5, o6, o7⟩ := HRO.out
    have hlen := o4 hc
    rw [← o3] at hlen
    rw [hc]
    have hbn : b < (roomC C).2.st.n := by rw [o2]; exact hb
    have hxn : ∀ z ∈ (roomC C).2.L, z.b ≠ b := fun z hz e => HAT.out z (o5 z hz) (by omega)
    clear HE0 HRO hc o1 o2 o3 o4 o5 o6 o7
    generalize roomC C = RC1 at *
    obtain ⟨code1, C1⟩ := RC1
    dsimp only at *
    obtain ⟨pv, pm, pc, w5, hrun, z2, f2, hfin, hwent, hgx⟩ := h4.push 69 ⟨b, s, true, pin⟩ hX4 hg2 hlen hbn HS.out hxn
    have HE : Hid (PutR r d lo hi v C b s pin w (.returned (.int .i64 0)) (w5.setCell ⟨r, 2, none⟩ (.slice pv pm pc))) := Lib.hid ⟨_, by rw [HE1.out], by rw [HE1.out]; exact hfin, ((Went.below HB1.out).trans HWT.out).trans hwent⟩
    obtain ⟨ad4, cap4, rfl, -⟩ := h4.shape
    have z4 : w4.drew.cell? ⟨r, 2, none⟩ = some (.slice ad4 C1.L.length cap4) := h4.cells.2.2
    have z4' : ∀ o : Obj, (w4.alloc o).drew.cell? ⟨r, 2, none⟩ = some (.slice ad4 C1.L.length cap4) := fun o => (h4.kept1 (balloc1 w4 o).drew).cells.2.2
    have y0 : w4.drew.cell? ⟨w.heap.size, 0, none⟩ = some (.int .i64 (b : Int)) := hX4.cell 0
    have y1 : w4.drew.cell? ⟨w.heap.size, 1, none⟩ = some (.string s) := hX4.cell 1
    have y2 : w4.drew.cell? ⟨w.heap.size, 2, none⟩ = some (.bool true) := hX4.cell 2
    have y3 : w4.drew.cell? ⟨w.heap.size, 3, none⟩ = some (.bool pin) := hX4.cell 3
    clear hX4 hg2 hxn hfin hwent HE1 hlen hbn h4 H4 HWT HX1 HB1 HF HSZ HAT HS
    go_upto_region 13 with fail
    refine wp_region_held_drew (S := fun _ => True) mixed trivial (fun hHeld => ?_)
    clear hHeld
    refine wpAnyH_take (i := 0) (oi := _) (v := ?v90) rfl (by kernel_rfl) (by kernel_rfl) (by kernel_rfl) (fun _ _ _ h => h) (Or.inl ⟨by rfl, ?hy90⟩) trivial ?rest90
    case hy90 => (intro w9 hSw; clear hSw; go_simp; try with_reducible rfl)
    try simp only [Act.put, List.setIfInBounds_toArray, List.set_cons_zero, List.set_cons_succ]
    refine wpAnyH_take (i := 1) (oi := _) (v := ?v91) rfl (by kernel_rfl) (by kernel_rfl) (by kernel_rfl) (fun _ _ _ h => h) (Or.inl ⟨by rfl, ?hy91⟩) trivial ?rest91
    case hy91 => (intro w9 hSw; clear hSw; go_simp; try with_reducible rfl)
    try simp only [Act.put, List.setIfInBounds_toArray, List.set_cons_zero, List.set_cons_succ]
    refine wpAnyH_take (i := 2) (oi := _) (v := ?v92) rfl (by kernel_rfl) (by kernel_rfl) (by kernel_rfl) (fun _ _ _ h => h) (Or.inl ⟨by rfl, ?hy92⟩) trivial ?rest92
    case hy92 => (intro w9 hSw; clear hSw; go_simp; try with_reducible rfl)
    try simp only [Act.put, List.setIfInBounds_toArray, List.set_cons_zero, List.set_cons_succ]
    refine wpAnyH_take (i := 3) (oi := _) (v := ?v93) rfl (by kernel_rfl) (by kernel_rfl) (by kernel_rfl) (fun _ _ _ h => h) (Or.inl ⟨by rfl, ?hy93⟩) trivial ?rest93
    case hy93 => (intro w9 hSw; clear hSw; go_simp; try with_reducible rfl)
    try simp only [Act.put, List.setIfInBounds_toArray, List.set_cons_zero, List.set_cons_succ]
    refine wpAnyH_ready (rs := [4, 5]) (by kernel_rfl) (by simp) ?_
    refine AllReadyH.cons (o := _) rfl (fun K hK => ?_) ?_
    · go_simp
      refine hK.out _ _ trivial (fun hHeld => ?_)
      clear hK K hHeld
      try simp only [Act.put, List.setIfInBounds_toArray, List.set_cons_zero, List.set_cons_succ]
      refine wpAnyH_ready (rs := [5]) (by kernel_rfl) (by simp) ?_
      refine AllReadyH.cons (o := _) rfl (fun K hK => ?_) ?_
      · go_simp
        refine hK.out _ _ trivial (fun hHeld => ?_)
        clear hK K hHeld
        try simp only [Act.put, List.setIfInBounds_toArray, List.set_cons_zero, List.set_cons_succ]
        refine wpAnyH_ready (rs := [6]) (by kernel_rfl) (by simp) ?_
        refine AllReadyH.cons (o := _) rfl (fun K hK => ?_) ?_
        · go_simp
          refine hK.out _ _ trivial (fun hHeld => ?_)
          clear hK K hHeld
          try simp only [Act.put, List.setIfInBounds_toArray, List.set_cons_zero, List.set_cons_succ]
          refine wpAnyH_ready (rs := [7]) (by kernel_rfl) (by simp) ?_
          refine AllReadyH.cons (o := _) rfl (fun K hK => ?_) ?_
          · refine step_append rfl _ _ _ rfl rfl rfl hrun ?_
            refine hK.out _ _ trivial (fun hHeld => ?_)
            clear hK K hHeld
            try simp only [Act.put, List.setIfInBounds_toArray, List.set_cons_zero, List.set_cons_succ]
            refine wpAnyH_ready (rs := [8]) (by kernel_rfl) (by simp) ?_
            refine AllReadyH.cons (o := _) rfl (fun K hK => ?_) ?_
            · go_simp
              refine hK.out _ _ trivial (fun hHeld => ?_)
              clear hK K hHeld
              try simp only [Act.put, List.setIfInBounds_toArray, List.set_cons_zero, List.set_cons_succ]
              refine wpAnyH_ready (rs := [9]) (by kernel_rfl) (by simp) ?_
              refine AllReadyH.cons (o := _) rfl (fun K hK => ?_) ?_
              · go_simp
                refine hK.out _ _ trivial (fun hHeld => ?_)
                clear hK K hHeld
                try simp only [Act.put, List.setIfInBounds_toArray, List.set_cons_zero, List.set_cons_succ]
                refine wpAnyH_ready (rs := [10]) (by kernel_rfl) (by simp) ?_
                refine AllReadyH.cons (o := _) rfl (fun K hK => ?_) ?_
                · go_simp
                  refine hK.out _ _ trivial (fun hHeld => ?_)
                  clear hK K hHeld
                  try simp only [Act.put, List.setIfInBounds_toArray, List.set_cons_zero, List.set_cons_succ]
                  refine ⟨by kernel_rfl, ?_⟩
                  go_wp2
                  go_ret
                  exact HE.out
                exact AllReadyH.nil
              exact AllReadyH.nil
            exact AllReadyH.nil
          exact AllReadyH.nil
        exact AllReadyH.nil
      exact AllReadyH.nil
    refine AllReadyH.cons (o := _) rfl (fun K hK => ?_) ?_
    · go_simp
      refine hK.out _ _ trivial (fun hHeld => ?_)
      clear hK K hHeld
      try simp only [Act.put, List.setIfInBounds_toArray, List.set_cons_zero, List.set_cons_succ]
      refine wpAnyH_ready (rs := [4, 6]) (by kernel_rfl) (by simp) ?_
      refine AllReadyH.cons (o := _) rfl (fun K hK => ?_) ?_
      · go_simp
        refine hK.out _ _ trivial (fun hHeld => ?_)
        clear hK K hHeld
        try simp only [Act.put, List.setIfInBounds_toArray, List.set_cons_zero, List.set_cons_succ]
        refine wpAnyH_ready (rs := [6]) (by kernel_rfl) (by simp) ?_
        refine AllReadyH.cons (o := _) rfl (fun K hK => ?_) ?_
        · go_simp
          refine hK.out _ _ trivial (fun hHeld => ?_)
          clear hK K hHeld
          try simp only [Act.put, List.setIfInBounds_toArray, List.set_cons_zero, List.set_cons_succ]
          refine wpAnyH_ready (rs := [7]) (by kernel_rfl) (by simp) ?_
          refine AllReadyH.cons (o := _) rfl (fun K hK => ?_) ?_
          · refine step_append rfl _ _ _ rfl rfl rfl hrun ?_
            refine hK.out _ _ trivial (fun hHeld => ?_)
            clear hK K hHeld
            try simp only [Act.put, List.setIfInBounds_toArray, List.set_cons_zero, List.set_cons_succ]
            refine wpAnyH_ready (rs := [8]) (by kernel_rfl) (by simp) ?_
            refine AllReadyH.cons (o := _) rfl (fun K hK => ?_) ?_
            · go_simp
              refine hK.out _ _ trivial (fun hHeld => ?_)
              clear hK K hHeld
              try simp only [Act.put, List.setIfInBounds_toArray, List.set_cons_zero, List.set_cons_succ]
              refine wpAnyH_ready (rs := [9]) (by kernel_rfl) (by simp) ?_
              refine AllReadyH.cons (o := _) rfl (fun K hK => ?_) ?_
              · go_simp
                refine hK.out _ _ trivial (fun hHeld => ?_)
                clear hK K hHeld
                try simp only [Act.put, List.setIfInBounds_toArray, List.set_cons_zero, List.set_cons_succ]
                refine wpAnyH_ready (rs := [10]) (by kernel_rfl) (by simp) ?_
                refine AllReadyH.cons (o := _) rfl (fun K hK => ?_) ?_
                · go_simp
                  refine hK.out _ _ trivial (fun hHeld => ?_)
                  clear hK K hHeld
                  try simp only [Act.put, List.setIfInBounds_toArray, List.set_cons_zero, List.set_cons_succ]
                  refine ⟨by kernel_rfl, ?_⟩
                  go_wp2
                  go_ret
                  exact HE.out
                exact AllReadyH.nil
              exact AllReadyH.nil
            exact AllReadyH.nil
          exact AllReadyH.nil
        exact AllReadyH.nil
      refine AllReadyH.cons (o := _) rfl (fun K hK => ?_) ?_
      · go_simp
        refine hK.out _ _ trivial (fun hHeld => ?_)
        clear hK K hHeld
        try simp only [Act.put, List.setIfInBounds_toArray, List.set_cons_zero, List.set_cons_succ]
        refine wpAnyH_ready (rs := [4]) (by kernel_rfl) (by simp) ?_
        refine AllReadyH.cons (o := _) rfl (fun K hK => ?_) ?_
        · go_simp
          refine hK.out _ _ trivial (fun hHeld => ?_)
          clear hK K hHeld
          try simp only [Act.put, List.setIfInBounds_toArray, List.set_cons_zero, List.set_cons_succ]
          refine wpAnyH_ready (rs := [7]) (by kernel_rfl) (by simp) ?_
          refine AllReadyH.cons (o := _) rfl (fun K hK => ?_) ?_
          · refine step_append rfl _ _ _ rfl rfl rfl hrun ?_
            refine hK.out _ _ trivial (fun hHeld => ?_)
            clear hK K hHeld
            try simp only [Act.put, List.setIfInBounds_toArray, List.set_cons_zero, List.set_cons_succ]
            refine wpAnyH_ready (rs := [8]) (by kernel_rfl) (by simp) ?_
            refine AllReadyH.cons (o := _) rfl (fun K hK => ?_) ?_
            · go_simp
              refine hK.out _ _ trivial (fun hHeld => ?_)
              clear hK K hHeld
              try simp only [Act.put, List.setIfInBounds_toArray, List.set_cons_zero, List.set_cons_succ]
              refine wpAnyH_ready (rs := [9]) (by kernel_rfl) (by simp) ?_
              refine AllReadyH.cons (o := _) rfl (fun K hK => ?_) ?_
              · go_simp
                refine hK.out _ _ trivial (fun hHeld => ?_)
                clear hK K hHeld
                try simp only [Act.put, List.setIfInBounds_toArray, List.set_cons_zero, List.set_cons_succ]
                refine wpAnyH_ready (rs := [10]) (by kernel_rfl) (by simp) ?_
                refine AllReadyH.cons (o := _) rfl (fun K hK => ?_) ?_
                · go_simp
                  refine hK.out _ _ trivial (fun hHeld => ?_)
                  clear hK K hHeld
                  try simp only [Act.put, List.setIfInBounds_toArray, List.set_cons_zero, List.set_cons_succ]
                  refine ⟨by kernel_rfl, ?_⟩
                  go_wp2
                  go_ret
                  exact HE.out
                exact AllReadyH.nil
              exact AllReadyH.nil
            exact AllReadyH.nil
          exact AllReadyH.nil
        exact AllReadyH.nil
      exact AllReadyH.nil
    exact AllReadyH.nil
  · have HE : Hid (PutR r d lo hi v C b s pin w (.returned (.int .i64 (roomC C).1)) w4) := Lib.hid ⟨v2, by rw [HE0.out, if_neg hc], by rw [HE0.out, if_neg hc]; have := H4.out; rw [HRO.out.2.2.2.2.2.1 hc] at this; exact this, (Went.below HB1.out).trans HWT.out⟩
    have t1 : ((roomC C).1 != 0) = true := by rw [bne_iff_ne]; exact hc
    clear HE0 HRO h4 H4 HWT hX4 hg2 hc
    generalize (roomC C).1 = code at *
    go_wp2
    go_ret
    exact HE.out
theorem rcput_raw {r d lo hi : Nat} {v : Value} {C : CS} (b : Int) (hb : I64 b) (s : ByteArray) (pin : Bool) (ha : C.st.acts ≤ 1000000) (w : World) (h : RC r d lo hi v C w) :
    Calls Tryz.prog 42 #[.pointer (some ⟨r, 0, none⟩), .int .i64 b, .string s, .bool pin] w (PutR r d lo hi v C b s pin w) := by
  by_cases h0 : b < 0 ∨ (C.st.n : Int) ≤ b
  · exact rcput_off b hb s pin h0 w h
  · obtain ⟨k, rfl⟩ := Int.eq_ofNat_of_zero_le (show 0 ≤ b by omega)
    by_cases hs : s.size = 128
    · cases hat : atB C.L k with
      | none => exact rcput_none k (by omega) s hs pin hat ha w h
      | some x => exact rcput_some k (by omega) s hs pin hat w h
    · exact rcput_size k (by omega) s hs pin w h
end Go.Proofs.YtehjobjjlldckaaGreat

namespace Go.Proofs.YtehjobjjlldckaaGreat
set_option linter.unusedVariables false
open Go.RowKit

section
variable {c d lo hi U : Nat} {M : Nat → Prop} {C : CS}
theorem rcget_any (b : Int) (hb : I64 b) (ha : C.st.acts ≤ 1000000) (hU : U ≤ 1000000000) (w : World) (h : CacheRt c d lo hi M U C w) :
    Calls Tryz.prog 41 #[cV c, .int .i64 b] w fun e w' => ∃ M', e = .returned (.tuple #[.string (getC C b).1, .int .i64 (getC C b).2.1]) ∧ CacheRt c d lo hi M' (U + 1) (getC C b).2.2 w' ∧ Went lo hi M M' w w' := by
  obtain ⟨v, h, rfl⟩ := h
  exact (rcget_raw b hb ha w h).mono fun e w' ⟨v', h1, h2, h3⟩ => ⟨_, h1, ⟨v', h2, rfl⟩, h3⟩
theorem rcput_any (b : Int) (hb : I64 b) (s : ByteArray) (pin : Bool) (ha : C.st.acts ≤ 1000000) (hU : U ≤ 1000000000) (w : World) (h : CacheRt c d lo hi M U C w) :
    Calls Tryz.prog 42 #[cV c, .int .i64 b, .string s, .bool pin] w fun e w' => ∃ M', e = .returned (.int .i64 (putC C b s pin).1) ∧ CacheRt c d lo hi M' (U + 1) (putC C b s pin).2 w' ∧ Went lo hi M M' w w' := by
  obtain ⟨v, h, rfl⟩ := h
  exact (rcput_raw b hb s pin ha w h).mono fun e w' ⟨v', h1, h2, h3⟩ => ⟨_, h1, ⟨v', h2, rfl⟩, h3⟩
theorem rcunpin_any (b : Int) (hb : I64 b) (w : World) (h : CacheRt c d lo hi M U C w) :
    Calls Tryz.prog 43 #[cV c, .int .i64 b] w fun e w' => ∃ M', e = .returned (.tuple #[]) ∧ CacheRt c d lo hi M' U (unpinC C b) w' ∧ Went lo hi M M' w w' := by
  obtain ⟨v, h, rfl⟩ := h
  exact (rcunpin_raw b hb w h).mono fun e w' ⟨h1, v', h2, h3⟩ => ⟨_, h1, ⟨v', h2, rfl⟩, h3⟩
theorem rcforget_any (b : Int) (hb : I64 b) (w : World) (h : CacheRt c d lo hi M U C w) :
    Calls Tryz.prog 44 #[cV c, .int .i64 b] w fun e w' => ∃ M', e = .returned (.tuple #[]) ∧ CacheRt c d lo hi M' U (forgetC C b) w' ∧ Went lo hi M M' w w' := by
  obtain ⟨v, h, rfl⟩ := h
  exact (rcforget_raw b hb w h).mono fun e w' ⟨h1, v', h2, h3⟩ => ⟨_, h1, ⟨v', h2, rfl⟩, h3⟩
theorem rcout_any (b : Int) (hb : I64 b) (ha : C.st.acts ≤ 1000000) (w : World) (h : CacheRt c d lo hi M U C w) :
    Calls Tryz.prog 45 #[cV c, .int .i64 b] w fun e w' => ∃ M', e = .returned (.int .i64 (outC C b).1) ∧ CacheRt c d lo hi M' U (outC C b).2 w' ∧ Went lo hi M M' w w' := by
  obtain ⟨v, h, rfl⟩ := h
  exact (rcout_raw b hb ha w h).mono fun e w' ⟨v', h1, h2, h3⟩ => ⟨_, h1, ⟨v', h2, rfl⟩, h3⟩
theorem rcsync_any (ha : C.st.acts ≤ 900000) (w : World) (h : CacheRt c d lo hi M U C w) :
    Calls Tryz.prog 46 #[cV c] w fun e w' => ∃ M', e = .returned (.int .i64 (syncC C).1) ∧ CacheRt c d lo hi M' U (syncC C).2 w' ∧ Went lo hi M M' w w' := by
  obtain ⟨v, h, rfl⟩ := h
  exact (rcsync_raw ha w h).mono fun e w' ⟨v', h1, h2, h3⟩ => ⟨_, h1, ⟨v', h2, rfl⟩, h3⟩
theorem rcblocks_any (dt pn : Bool) (w : World) (h : CacheRt c d lo hi M U C w) :
    Calls Tryz.prog 15 #[cV c, .bool dt, .bool pn] w fun e w' => ∃ v', e = .returned v' ∧ NatsAt w.heap.size v' (listB C dt pn) w' ∧ Below w.heap.size w w' := by
  obtain ⟨v, h, rfl⟩ := h
  exact rcblocks_raw dt pn w h
end
end Go.Proofs.YtehjobjjlldckaaGreat
