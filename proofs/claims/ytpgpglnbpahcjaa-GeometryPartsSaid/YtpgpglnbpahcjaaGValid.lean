/- The contracts of valid, and of the document's May. -/
import Derived.Test.YtpgpglnbpahcjaaGRef2
namespace Go.Proofs.Ytpgpglnbpahcjaa
set_option linter.unusedVariables false
open Go.RowKit

/-- is it a layout that Of tells? -/
def isG (b l i la ma ml ta tl da : Int) : Prop := okG b l i ∧ la = 1 ∧ ma = 1 + l ∧ ml = (b + 1023) / 1024 ∧ ta = 1 + l + (b + 1023) / 1024 ∧ tl = i / 2 ∧ da = 1 + l + (b + 1023) / 1024 + i / 2
instance (b l i la ma ml ta tl da : Int) : Decidable (isG b l i la ma ml ta tl da) := by unfold isG; infer_instance
theorem isG_yes {b l i la ma ml ta tl da : Int} (h : isG b l i la ma ml ta tl da) : ∃ b' l' i' m t : Nat, b = b' ∧ l = l' ∧ i = i' ∧ okN b' l' i' m t ∧ la = 1 ∧ ma = 1 + (l' : Int) ∧ ml = m ∧ ta = 1 + (l' : Int) + m ∧ tl = t ∧ da = 1 + (l' : Int) + m + t := by
  obtain ⟨h, rfl, rfl, rfl, rfl, rfl, rfl⟩ := h
  obtain ⟨b', l', i', m, t, rfl, rfl, rfl, h2⟩ := okG_yes h
  exact ⟨b', l', i', m, t, rfl, rfl, rfl, h2, by unfold okN at h2; omega⟩
theorem isG_lay {b l i m t : Nat} (h : okN b l i m t) (la ma ml ta tl da : Int) : isG b l i la ma ml ta tl da ↔ 1 = la ∧ 1 + (l : Int) = ma ∧ (m : Int) = ml ∧ 1 + (l : Int) + m = ta ∧ (t : Int) = tl ∧ 1 + (l : Int) + m + t = da := by
  have h' := okG_of h
  unfold okN at h
  unfold isG
  constructor
  · rintro ⟨_, rfl, rfl, rfl, rfl, rfl, rfl⟩; omega
  · rintro ⟨rfl, rfl, rfl, rfl, rfl, rfl⟩; exact ⟨h', by omega⟩


set_option maxHeartbeats 2000000 in
theorem valid_off (b l i la ma ml ta tl da : Int) (h : ¬ okG b l i) (w : World) :
    Calls Try.prog 20 #[geo b l i la ma ml ta tl da] w fun e w' => e = .returned (.bool false) ∧ Below w.heap.size w w' := by
  have O := Lib.hid (of_off b l i h (w.alloc (.cells (cellsG b l i la ma ml ta tl da) 23)))
  clear h
  go_enter Try.func20, Try.ntmps20
  go_wp2_with fail
  refine O.out.mono ?_; rintro e w1 ⟨rfl, hb⟩
  have hbb := below_boxed hb
  go_wp2
  go_ret
  exact ⟨rfl, balloc hbb _⟩
set_option maxHeartbeats 2000000 in
theorem valid_on (b l i m t : Nat) (la ma ml ta tl da : Int) (h : okN b l i m t) (w : World) :
    Calls Try.prog 20 #[geo b l i la ma ml ta tl da] w fun e w' => e = .returned (.bool (decide (isG b l i la ma ml ta tl da))) ∧ Below w.heap.size w w' := by
  have O := Lib.hid (of_yes b l i m t h (w.alloc (.cells (cellsG b l i la ma ml ta tl da) 23)))
  have HI := Lib.hid (isG_lay h la ma ml ta tl da)
  clear h
  go_enter Try.func20, Try.ntmps20
  go_wp2_with fail
  refine O.out.mono ?_; rintro e w1 ⟨rfl, hb⟩
  have hbb := below_boxed hb
  have hg := (GeoAt.new b l i la ma ml ta tl da w).kept1 hb
  obtain ⟨c0, c1, c2, c3, c4, c5, c6, c7, c8⟩ := hg.cells
  have hlt := hg.lt
  clear hg hb
  have gh := geo_held
  go_wp2
  all_goals go_ret
  all_goals refine ⟨ret_bool (Eq.symm ?_), balloc hbb _⟩
  all_goals first
    | exact decide_eq_true (HI.out.2 (by omega))
    | exact decide_eq_false (fun h => by have := HI.out.1 h; omega)
theorem valid_any (b l i la ma ml ta tl da : Int) (w : World) :
    Calls Try.prog 20 #[geo b l i la ma ml ta tl da] w fun e w' => e = .returned (.bool (decide (isG b l i la ma ml ta tl da))) ∧ Below w.heap.size w w' := by
  by_cases h : okG b l i
  · obtain ⟨b', l', i', m, t, rfl, rfl, rfl, h2⟩ := okG_yes h
    exact valid_on b' l' i' m t la ma ml ta tl da h2 w
  · rw [decide_eq_false (fun h2 => h h2.1)]
    exact valid_off b l i la ma ml ta tl da h w

set_option maxHeartbeats 2000000 in
theorem may_off (b l i la ma ml ta tl da : Int) (h : ¬ okG b l i) (w : World) :
    Calls Try.prog 21 #[geo b l i la ma ml ta tl da] w fun e w' => e = .returned (.bool false) ∧ Below w.heap.size w w' := by
  have O := Lib.hid (rof_off b l i h (w.alloc (.cells (cellsG b l i la ma ml ta tl da) 23)))
  clear h
  go_enter Try.func21, Try.ntmps21
  go_wp2_with fail
  refine O.out.mono ?_; rintro e w1 ⟨rfl, hb⟩
  have hbb := below_boxed hb
  go_wp2
  go_ret
  exact ⟨rfl, balloc hbb _⟩
set_option maxHeartbeats 2000000 in
theorem may_on (b l i m t : Nat) (la ma ml ta tl da : Int) (h : okN b l i m t) (w : World) :
    Calls Try.prog 21 #[geo b l i la ma ml ta tl da] w fun e w' => e = .returned (.bool (decide (isG b l i la ma ml ta tl da))) ∧ Below w.heap.size w w' := by
  have O := Lib.hid (rof_yes b l i m t h (w.alloc (.cells (cellsG b l i la ma ml ta tl da) 23)))
  have HI := Lib.hid (isG_lay h la ma ml ta tl da)
  clear h
  go_enter Try.func21, Try.ntmps21
  go_wp2_with fail
  refine O.out.mono ?_; rintro e w1 ⟨rfl, hb⟩
  have hbb := below_boxed hb
  have hg := (GeoAt.new b l i la ma ml ta tl da w).kept1 hb
  obtain ⟨c0, c1, c2, c3, c4, c5, c6, c7, c8⟩ := hg.cells
  have hlt := hg.lt
  clear hg hb
  have gh := geo_held
  go_wp2
  all_goals go_ret
  all_goals refine ⟨ret_bool (Eq.symm ?_), balloc hbb _⟩
  all_goals first
    | exact decide_eq_true (HI.out.2 (by omega))
    | exact decide_eq_false (fun h => by have := HI.out.1 h; omega)
theorem may_any (b l i la ma ml ta tl da : Int) (w : World) :
    Calls Try.prog 21 #[geo b l i la ma ml ta tl da] w fun e w' => e = .returned (.bool (decide (isG b l i la ma ml ta tl da))) ∧ Below w.heap.size w w' := by
  by_cases h : okG b l i
  · obtain ⟨b', l', i', m, t, rfl, rfl, rfl, h2⟩ := okG_yes h
    exact may_on b' l' i' m t la ma ml ta tl da h2 w
  · rw [decide_eq_false (fun h2 => h h2.1)]
    exact may_off b l i la ma ml ta tl da h w
end Go.Proofs.Ytpgpglnbpahcjaa
