/- The cache's cells; missing, exists; a buffer written. -/
import Derived.Test.YtehjobjjlldckaaGreatCHeap1
import Derived.Test.YtehjobjjlldckaaGreatCMap
import Derived.Test.YtehjobjjlldckaaGreatDWrite
namespace Go.Proofs.YtehjobjjlldckaaGreat
set_option linter.unusedVariables false
open Go.RowKit

def cellsC (c d m most uses : Nat) (q : Value) : Array Value :=
  #[.pointer (some ⟨c, 0, none⟩), .func (.func 27) #[.pointer (some ⟨d, 0, none⟩)] #[], .func (.func 28) #[.pointer (some ⟨d, 0, none⟩)] #[], .func (.func 29) #[.pointer (some ⟨d, 0, none⟩)] #[],
    .int .i64 (most : Int), .map (some m), q, .int .i64 (uses : Int)]
theorem cache_size : (Tryz.prog.info? 68).map (·.size) = some 8 := by kernel_rfl
theorem cequal_none (w : World) (p : Addr) : ∀ d, (Op.equalIn (d + 1) 33 (.pointer none) (.pointer (some p))).run Tryz.prog w = .ok false w := fun d => by
  simp [Op.equalIn, run_underlying Tryz.underlying33]
theorem cequal_self (w : World) (p : Addr) : ∀ d, (Op.equalIn (d + 1) 33 (.pointer (some p)) (.pointer (some p))).run Tryz.prog w = .ok true w := fun d => by
  obtain ⟨i, hi, hs⟩ := Option.map_eq_some_iff.1 cache_size
  simp [Op.equalIn, run_underlying Tryz.underlying33, sizeOf, typeInfo, hi, sameAddr]
theorem crun_neq_none (w : World) (p : Addr) : (binOp .neq 33 (.pointer none) (.pointer (some p))).run Tryz.prog w = .ok (.bool true) w := by
  have h : (Op.equal 33 (.pointer none) (.pointer (some p))).run Tryz.prog w = .ok false w := cequal_none w p 9999
  simp only [binOp]
  simp [h]
theorem crun_neq_self (w : World) (p : Addr) : (binOp .neq 33 (.pointer (some p)) (.pointer (some p))).run Tryz.prog w = .ok (.bool false) w := by
  have h : (Op.equal 33 (.pointer (some p)) (.pointer (some p))).run Tryz.prog w = .ok true w := cequal_self w p 9999
  simp only [binOp]
  simp [h]
abbrev cV (c : Nat) : Value := .pointer (some ⟨c, 0, none⟩)
def NoCache (v : Value) (w : World) : Prop := v = .pointer none ∨ ∃ c, v = cV c ∧ w.cell? ⟨c, 0, none⟩ = some (.pointer none)
theorem cmissing_yes (v : Value) (w : World) (h : NoCache v w) : Calls Tryz.prog 60 #[v] w fun e w' => e = .returned (.bool true) ∧ w = w' := by
  rcases h with rfl | ⟨d, rfl, h⟩
  · go_enter Tryz.func60, Tryz.ntmps60
    go_wp2
    go_ret
    exact ⟨rfl, rfl⟩
  · have hq := crun_neq_none
    go_enter Tryz.func60, Tryz.ntmps60
    go_wp2
    go_ret
    exact ⟨rfl, rfl⟩
theorem cmissing_no (c : Nat) (w : World) (h : w.cell? ⟨c, 0, none⟩ = some (cV c)) :
    Calls Tryz.prog 60 #[cV c] w fun e w' => e = .returned (.bool false) ∧ w = w' := by
  have hq := crun_neq_self
  go_enter Tryz.func60, Tryz.ntmps60
  go_wp2
  go_ret
  exact ⟨rfl, rfl⟩
theorem cexists_any {c d lo hi m most uses : Nat} {q : Value} {S : St} (b : Int) (w : World) (hb : Blk c (cellsC c d m most uses q) 68 w) (hd : DevAt d lo hi S w) :
    Calls Tryz.prog 61 #[cV c, .int .i64 b] w fun e w' => e = .returned (.bool (decide (0 ≤ b ∧ b < (S.n : Int)))) ∧ w = w' := by
  have c1 : w.cell? ⟨c, 1, none⟩ = some (.func (.func 27) #[.pointer (some ⟨d, 0, none⟩)] #[]) := hb.cell 1
  have B := Lib.hid (blocks_any w hd)
  clear hb hd
  by_cases h0 : 0 ≤ b
  · have e : decide (0 ≤ b ∧ b < (S.n : Int)) = decide (b < (S.n : Int)) := by simp [h0]
    rw [e]
    clear e
    go_enter Tryz.func61, Tryz.ntmps61
    go_wp2_with fail
    refine B.out.mono ?_; rintro e w' ⟨rfl, rfl⟩
    go_wp2
    go_ret
    exact ⟨rfl, rfl⟩
  · have e : decide (0 ≤ b ∧ b < (S.n : Int)) = false := decide_eq_false (by omega)
    rw [e]
    have h1 : b < 0 := by omega
    clear e B
    go_enter Tryz.func61, Tryz.ntmps61
    go_wp2
    go_ret
    exact ⟨rfl, rfl⟩
end Go.Proofs.YtehjobjjlldckaaGreat
