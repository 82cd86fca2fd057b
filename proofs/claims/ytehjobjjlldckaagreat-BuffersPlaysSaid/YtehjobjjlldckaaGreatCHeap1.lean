/- container/heap's queue: its methods, as the interface calls them. -/
import Derived.Test.YtehjobjjlldckaaGreatCTurn
import Derived.Test.YtehjobjjlldckaaGreatHMath
import Derived.StillTailTactics
namespace Go.Proofs.YtehjobjjlldckaaGreat
set_option linter.unusedVariables false
open Go.RowKit

theorem q_find (nm : String) (f : FuncId) (p : Bool) (h : ((Tryz.prog.info? 94).bind fun i => (i.methods.find? (·.name == nm)).map fun m => (m.path.isEmpty, m.func)) = some (true, some (f, p))) :
    ∃ i m, Tryz.prog.info? 94 = some i ∧ i.methods.find? (·.name == nm) = some m ∧ m.path = #[] ∧ m.func = some (f, p) := by
  obtain ⟨i, hi, h2⟩ := Option.bind_eq_some_iff.1 h
  obtain ⟨m, hm, h3⟩ := Option.map_eq_some_iff.1 h2
  simp only [Prod.mk.injEq] at h3
  exact ⟨i, m, hi, hm, Array.isEmpty_iff.1 h3.1, h3.2⟩
theorem run_wrap (xt : TypeId) (a : Addr) (s m : ByteArray) (w : World) : (Builtin.ssaWrapNilChk_ #[xt] xt #[.pointer (some a), .string s, .string m]).run Tryz.prog w = .ok (.pointer (some a)) w := rfl
theorem q_method (nm : String) (f : FuncId) (h : ((Tryz.prog.info? 94).bind fun i => (i.methods.find? (·.name == nm)).map fun m => (m.path.isEmpty, m.func)) = some (true, some (f, false)))
    (c : Nat) (v : Value) (w : World) (hc : w.cell? ⟨c, 6, none⟩ = some v) (fuel : Nat) : (method (fuel + 1) 94 (.pointer (some ⟨c, 6, none⟩)) nm).run Tryz.prog w = .ok (f, v) w := by
  obtain ⟨i, m, hi, hm, hp, hf⟩ := q_find nm f false h
  simp only [method]
  simp [typeInfo, hi, hm, hp, hf, follow, receiverAt, run_underlying Tryz.underlying94, Place.get, run_wrap, asAddr, loadVar, strVal, isAgg, run_underlying Tryz.underlying66, hc]
theorem q_method_ptr (nm : String) (f : FuncId) (h : ((Tryz.prog.info? 94).bind fun i => (i.methods.find? (·.name == nm)).map fun m => (m.path.isEmpty, m.func)) = some (true, some (f, true)))
    (c : Nat) (w : World) (fuel : Nat) : (method (fuel + 1) 94 (.pointer (some ⟨c, 6, none⟩)) nm).run Tryz.prog w = .ok (f, .pointer (some ⟨c, 6, none⟩)) w := by
  obtain ⟨i, m, hi, hm, hp, hf⟩ := q_find nm f true h
  simp only [method]
  simp [typeInfo, hi, hm, hp, hf, follow, receiverAt, run_underlying Tryz.underlying94, Place.get]
theorem q_nil (nm : String) (f : FuncId) (p : Bool) (h : ((Tryz.prog.info? 94).bind fun i => (i.methods.find? (·.name == nm)).map fun m => (m.path.isEmpty, m.func)) = some (true, some (f, p)))
    (c : Nat) (w : World) (fuel : Nat) : (nilAhead (fuel + 1) 94 (.pointer (some ⟨c, 6, none⟩)) nm).run Tryz.prog w = .ok (some false) w := by
  obtain ⟨i, m, hi, hm, hp, hf⟩ := q_find nm f p h
  simp only [nilAhead]
  cases p <;> simp [typeInfo, hi, hm, hp, hf, followBlind, run_underlying Tryz.underlying94]
theorem len_m : ((Tryz.prog.info? 94).bind fun i => (i.methods.find? (·.name == "Len")).map fun m => (m.path.isEmpty, m.func)) = some (true, some (117, false)) := by kernel_rfl
theorem less_m : ((Tryz.prog.info? 94).bind fun i => (i.methods.find? (·.name == "Less")).map fun m => (m.path.isEmpty, m.func)) = some (true, some (118, false)) := by kernel_rfl
theorem swap_m : ((Tryz.prog.info? 94).bind fun i => (i.methods.find? (·.name == "Swap")).map fun m => (m.path.isEmpty, m.func)) = some (true, some (119, false)) := by kernel_rfl
theorem push_m : ((Tryz.prog.info? 94).bind fun i => (i.methods.find? (·.name == "Push")).map fun m => (m.path.isEmpty, m.func)) = some (true, some (121, true)) := by kernel_rfl
theorem pop_m : ((Tryz.prog.info? 94).bind fun i => (i.methods.find? (·.name == "Pop")).map fun m => (m.path.isEmpty, m.func)) = some (true, some (120, true)) := by kernel_rfl

/-! ### buffers in a queue -/
structure Rec where
  b : Nat
  data : ByteArray
  dirty : Bool
  pin : Bool
  used : Nat
def ptrV (g : Nat) : Value := .pointer (some ⟨g, 0, none⟩)
def recCells (r : Rec) (p : Nat) : Array Value := #[.int .i64 (r.b : Int), .string r.data, .bool r.dirty, .bool r.pin, .int .i64 (r.used : Int), .int .i64 (p : Int)]
def keyR (r : Rec) : Int := if r.pin then (r.used : Int) + 4611686018427387904 else (r.used : Int)
def lessR (x y : Rec) : Bool := if x.pin = y.pin then decide (x.used < y.used) else y.pin
theorem less_key {x y : Rec} (hx : x.used < 2305843009213693952) (hy : y.used < 2305843009213693952) : lessR x y = decide (keyR x < keyR y) := by
  unfold lessR keyR
  cases x.pin <;> cases y.pin <;> simp <;> omega
/-- the cells of a buffer -/
theorem rec_cells {g p : Nat} {r : Rec} {w : World} (h : Blk g (recCells r p) 91 w) :
    w.cell? ⟨g, 0, none⟩ = some (.int .i64 (r.b : Int)) ∧ w.cell? ⟨g, 1, none⟩ = some (.string r.data) ∧ w.cell? ⟨g, 2, none⟩ = some (.bool r.dirty) ∧ w.cell? ⟨g, 3, none⟩ = some (.bool r.pin) ∧ w.cell? ⟨g, 4, none⟩ = some (.int .i64 (r.used : Int)) ∧ w.cell? ⟨g, 5, none⟩ = some (.int .i64 (p : Int)) :=
  ⟨h.cell 0, h.cell 1, h.cell 2, h.cell 3, h.cell 4, h.cell 5⟩
theorem len_any (v : Option Addr) (n cap : Nat) (hn : n ≤ cap) (hc : cap ≤ 9223372036854775807) (w : World) :
    Calls Tryz.prog 117 #[.slice v n cap] w fun e w' => e = .returned (.int .i64 (n : Int)) ∧ w = w' := by
  go_enter Tryz.func117, Tryz.ntmps117
  go_wp2
  go_ret
  exact ⟨rfl, rfl⟩
set_option maxHeartbeats 1000000 in
theorem less_raw (gq n cap i j g1 g2 p1 p2 : Nat) (x y : Rec) (hi : i < n) (hj : j < n) (hn : n ≤ cap) (hc : cap ≤ 9223372036854775807) (w : World)
    (q1 : w.cell? ⟨gq, i, none⟩ = some (ptrV g1)) (q2 : w.cell? ⟨gq, j, none⟩ = some (ptrV g2)) (b1 : Blk g1 (recCells x p1) 91 w) (b2 : Blk g2 (recCells y p2) 91 w) :
    Calls Tryz.prog 118 #[.slice (some ⟨gq, 0, none⟩) n cap, .int .i64 (i : Int), .int .i64 (j : Int)] w fun e w' => e = .returned (.bool (lessR x y)) ∧ Below w.heap.size w w' := by
  obtain ⟨_, _, _, c13, c14, _⟩ := rec_cells b1
  obtain ⟨_, _, _, c23, c24, _⟩ := rec_cells b2
  clear b1 b2
  unfold ptrV at q1 q2
  unfold lessR
  obtain ⟨xb, xd, xy, xp, xu⟩ := x
  obtain ⟨yb, yd, yy, yp, yu⟩ := y
  dsimp only at *
  have d1 : ∀ q, (w.drewN q).cell? ⟨gq, i, none⟩ = some (.pointer (some ⟨g1, 0, none⟩)) := fun _ => q1
  have d2 : ∀ q, (w.drewN q).cell? ⟨gq, j, none⟩ = some (.pointer (some ⟨g2, 0, none⟩)) := fun _ => q2
  have d3 : ∀ q, (w.drewN q).cell? ⟨g1, 3, none⟩ = some (.bool xp) := fun _ => c13
  have d4 : ∀ q, (w.drewN q).cell? ⟨g1, 4, none⟩ = some (.int .i64 (xu : Int)) := fun _ => c14
  have d5 : ∀ q, (w.drewN q).cell? ⟨g2, 3, none⟩ = some (.bool yp) := fun _ => c23
  have d6 : ∀ q, (w.drewN q).cell? ⟨g2, 4, none⟩ = some (.int .i64 (yu : Int)) := fun _ => c24
  clear q1 q2 c13 c14 c23 c24
  cases xp <;> cases yp
  all_goals
    go_enter Tryz.func118, Tryz.ntmps118
    go_wp2
    go_quiet (fail)
    go_wp2
    first
      | (go_ret
         exact ⟨rfl, below_drewN (Below.refl _ _) _⟩)
      | (go_quiet (fail)
         go_wp2
         go_ret
         exact ⟨rfl, below_drewN (Below.refl _ _) _⟩)
end Go.Proofs.YtehjobjjlldckaaGreat
