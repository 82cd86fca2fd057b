/- Bytes 0 that make lays. -/
import Derived.Test.YtogdogadejjmeaaKRep
import Derived.Test.YtogdogadejjmeaaRowIn
namespace Go.Proofs.Ytogdogadejjmeaa
set_option linter.unusedVariables false
open Go.RowKit

theorem kz_info : (Try.prog.info? 5).map (fun i => (i.zero, i.size, i.bytes)) = some (some (.int .u8 0), 1, 1) := by kernel_rfl
theorem kz_made (n : Nat) (hn : n ≤ 4096) (w : World) :
    (Instr.makeSlice 43 (.int .i64 n) (.int .i64 n)).run Try.prog w = .ok (.slice (some ⟨w.heap.size, 0, none⟩) n n) (w.alloc (.cells (madeCells #[.int .u8 0] n) 5)) := by
  obtain ⟨i, hi, hz, hs, hb⟩ := info_parts kz_info
  have h := run_make (P := Try.prog) w 43 5 i (.int .u8 0) Try.underlying43 hi hz .i64 .i64 n n (by omega) (Int.le_refl _) (by rw [hb]; omega) (by omega)
  simpa [hs, Value.cells] using h
theorem kz_cell (z : Value) (n j : Nat) (h : j < n) : (madeCells #[z] n)[j]? = some z := by
  have e : (madeCells #[z] n)[j]? = (madeCells #[z] n).toList[j]? := by simp
  rw [e, toList_madeCells_one]; simp [h]
theorem kz_back (w : World) (n : Nat) :
    (convert 43 9 (.slice (some ⟨w.heap.size, 0, none⟩) n n)).run Try.prog (w.alloc (.cells (madeCells #[.int .u8 0] n) 5)) = .ok (.string (bs (zeroL n))) (w.alloc (.cells (madeCells #[.int .u8 0] n) 5)) := by
  have h := run_convert_bytes_back (P := Try.prog) (w.alloc (.cells (madeCells #[.int .u8 0] n) 5)) 43 9 5 ⟨w.heap.size, 0, none⟩ n (zeroL n) Try.underlying43 Try.underlying5 Try.underlying9 fun j hj => by
    have hj : j < n := by rw [zeroL_length] at hj; exact hj
    rw [add_at, Nat.zero_add, World.cell?_alloc_mark, kz_cell _ _ _ hj]
    have e : (zeroL n)[j]'(by rw [zeroL_length]; exact hj) = 0 := by unfold zeroL; exact List.getElem_replicate _
    rw [e]; rfl
  rw [zeroL_length] at h
  exact h

theorem kz_text (w : World) (g n cap : Nat) (h : CellsAt g n (fun _ => .int .u8 0) w) :
    (convert 43 9 (.slice (some ⟨g, 0, none⟩) n cap)).run Try.prog w = .ok (.string (bs (zeroL n))) w := by
  have h := run_convert_bytes_back (P := Try.prog) w 43 9 5 ⟨g, 0, none⟩ cap (zeroL n) Try.underlying43 Try.underlying5 Try.underlying9 fun j hj => by
    have hj : j < n := by rw [zeroL_length] at hj; exact hj
    rw [add_at, Nat.zero_add, (h.2 j hj).1]
    have e : (zeroL n)[j]'(by rw [zeroL_length]; exact hj) = 0 := by unfold zeroL; exact List.getElem_replicate _
    rw [e]; rfl
  rw [zeroL_length] at h
  exact h
end Go.Proofs.Ytogdogadejjmeaa
