/- The contracts of Of, within, laid, and of the document's Of. -/
import Derived.Test.YtonfloehobcfbaaGMath
namespace Go.Proofs.Ytonfloehobcfbaa
set_option linter.unusedVariables false
open Go.RowKit

theorem within_yes (n a b : Int) (h1 : a ≤ n) (h2 : n ≤ b) (w : World) :
    Calls Try.prog 34 #[.int .i64 n, .int .i64 a, .int .i64 b] w fun e w' => e = .returned (.bool true) ∧ w = w' := by
  go_enter Try.func34, Try.ntmps34
  go_wp2
  go_ret
  exact ⟨rfl, rfl⟩
theorem within_no (n a b : Int) (h : n < a ∨ b < n) (w : World) :
    Calls Try.prog 34 #[.int .i64 n, .int .i64 a, .int .i64 b] w fun e w' => e = .returned (.bool false) ∧ w = w' := by
  by_cases h1 : a ≤ n
  · have h2 : b < n := by omega
    go_enter Try.func34, Try.ntmps34
    go_wp2
    go_ret
    exact ⟨ret_bool (by simp; omega), rfl⟩
  · have h2 : n < a := by omega
    go_enter Try.func34, Try.ntmps34
    go_wp2
    go_ret
    exact ⟨rfl, rfl⟩

set_option maxHeartbeats 2000000 in
theorem laid_any (b l i m t : Nat) (h : fitN b l i m t) (w : World) :
    Calls Try.prog 35 #[.int .i64 (b : Int), .int .i64 (l : Int), .int .i64 (i : Int)] w fun e w' => e = .returned (lay b l i m t) ∧ Below w.heap.size w w' := by
  obtain ⟨h1, h2, h3, h4, h5, h6, h7, h8, h9⟩ := h
  have e1 : ((b : Int) + 1024 - 1) / 1024 = (m : Int) := by omega
  have e2 : (i : Int) / 2 = (t : Int) := by omega
  have hm : m ≤ 4 := by omega
  have ht : t ≤ 256 := by omega
  clear h7 h8 h9
  go_enter Try.func35, Try.ntmps35
  go_wp2
  refine bodyPost_ret (v := lay b l i m t) ?_ rfl ⟨rfl, ?_⟩
  · rw [results_one_cell rfl]
    go_simp
  · exact balloc (balloc1 _ _) _

/-! ### Of -/
theorem okN_fit {b l i m t : Nat} (h : okN b l i m t) : fitN b l i m t := by unfold okN at h; unfold fitN; omega

set_option maxHeartbeats 2000000 in
theorem of_yes (b l i m t : Nat) (h : okN b l i m t) (w : World) :
    Calls Try.prog 19 #[.int .i64 (b : Int), .int .i64 (l : Int), .int .i64 (i : Int)] w fun e w' => e = .returned (.tuple #[lay b l i m t, .int .i64 0]) ∧ Below w.heap.size w w' := by
  have L := Lib.hid (laid_any b l i m t (okN_fit h) (w.alloc (.cells #[.int .i64 0, .int .i64 0, .int .i64 0, .int .i64 0, .int .i64 0, .int .i64 0, .int .i64 0, .int .i64 0, .int .i64 0] 47)))
  obtain ⟨h1, h2, h3, h4, h5, h6, h7, h8, h9, h10⟩ := h
  have W1 := Lib.hid (within_yes b 256 4096 (by omega) (by omega))
  have W2 := Lib.hid (within_yes l 128 512 (by omega) (by omega))
  have W3 := Lib.hid (within_yes i 8 512 (by omega) (by omega))
  have e1 : ((i : Int) % 2 != 0) = false := by rw [bne_eq_false_iff_eq]; omega
  have hm : m ≤ 4 := by omega
  have ht : t ≤ 256 := by omega
  clear h7 h8 h9
  go_enter Try.func19, Try.ntmps19
  go_wp2_with fail
  refine (W1.out _).mono ?_; rintro e w' ⟨rfl, rfl⟩
  go_wp2_with fail
  refine (W2.out _).mono ?_; rintro e w' ⟨rfl, rfl⟩
  go_wp2_with fail
  refine (W3.out _).mono ?_; rintro e w' ⟨rfl, rfl⟩
  go_wp2_with fail
  refine L.out.mono ?_; rintro e w1 ⟨rfl, hb⟩
  have hres : GeoAt w.heap.size 0 0 0 0 0 0 0 0 0 w1 := (GeoAt.new 0 0 0 0 0 0 0 0 0 w).kept1 hb
  have hbb := below_boxed hb
  have hres := (hres.kept1 (balloc1 w1 (.cells (cellsG b l i 1 (1 + l) m (1 + l + m) t (1 + l + m + t)) 47)))
  go_wp2_with (refine wpList_store_geo rfl _ _ rfl rfl rfl hres ?_)
  intro w2 h2 hl2 hs2 _
  obtain ⟨c0, c1, c2, c3, c4, c5, c6, c7, c8⟩ := h2.cells
  have hbe : Below w.heap.size w w2 := (balloc hbb _).trans hl2
  clear hl2 hs2 hres hb hbb
  go_wp2
  refine bodyPost_ret (v := .tuple #[lay b l i m t, .int .i64 0]) ?_ rfl ⟨rfl, hbe⟩
  rw [results_cell_tmp rfl]
  go_simp

/-- what Of tells of three numbers that may not be -/
abbrev offG : Value := .tuple #[noG, .int .i64 2]
theorem of_off1 (b l i : Int) (h : b < 256 ∨ 4096 < b) (w : World) :
    Calls Try.prog 19 #[.int .i64 b, .int .i64 l, .int .i64 i] w fun e w' => e = .returned offG ∧ Below w.heap.size w w' := by
  have W1 := Lib.hid (within_no b 256 4096 h)
  clear h
  go_enter Try.func19, Try.ntmps19
  go_wp2_with fail
  refine (W1.out _).mono ?_; rintro e w' ⟨rfl, rfl⟩
  go_wp2
  refine bodyPost_ret (v := offG) ?_ rfl ⟨rfl, balloc1 _ _⟩
  rw [results_cell_tmp rfl]
  go_simp
theorem of_off2 (b l i : Int) (h1 : 256 ≤ b) (h2 : b ≤ 4096) (h : l < 128 ∨ 512 < l) (w : World) :
    Calls Try.prog 19 #[.int .i64 b, .int .i64 l, .int .i64 i] w fun e w' => e = .returned offG ∧ Below w.heap.size w w' := by
  have W1 := Lib.hid (within_yes b 256 4096 h1 h2)
  have W2 := Lib.hid (within_no l 128 512 h)
  clear h h1 h2
  go_enter Try.func19, Try.ntmps19
  go_wp2_with fail
  refine (W1.out _).mono ?_; rintro e w' ⟨rfl, rfl⟩
  go_wp2_with fail
  refine (W2.out _).mono ?_; rintro e w' ⟨rfl, rfl⟩
  go_wp2
  refine bodyPost_ret (v := offG) ?_ rfl ⟨rfl, balloc1 _ _⟩
  rw [results_cell_tmp rfl]
  go_simp
theorem of_off3 (b l i : Int) (h1 : 256 ≤ b) (h2 : b ≤ 4096) (h3 : 128 ≤ l) (h4 : l ≤ 512) (h : i < 8 ∨ 512 < i) (w : World) :
    Calls Try.prog 19 #[.int .i64 b, .int .i64 l, .int .i64 i] w fun e w' => e = .returned offG ∧ Below w.heap.size w w' := by
  have W1 := Lib.hid (within_yes b 256 4096 h1 h2)
  have W2 := Lib.hid (within_yes l 128 512 h3 h4)
  have W3 := Lib.hid (within_no i 8 512 h)
  clear h h1 h2 h3 h4
  go_enter Try.func19, Try.ntmps19
  go_wp2_with fail
  refine (W1.out _).mono ?_; rintro e w' ⟨rfl, rfl⟩
  go_wp2_with fail
  refine (W2.out _).mono ?_; rintro e w' ⟨rfl, rfl⟩
  go_wp2_with fail
  refine (W3.out _).mono ?_; rintro e w' ⟨rfl, rfl⟩
  go_wp2
  refine bodyPost_ret (v := offG) ?_ rfl ⟨rfl, balloc1 _ _⟩
  rw [results_cell_tmp rfl]
  go_simp
theorem of_off4 (b l : Int) (i : Nat) (h1 : 256 ≤ b) (h2 : b ≤ 4096) (h3 : 128 ≤ l) (h4 : l ≤ 512) (h5 : 8 ≤ (i : Int)) (h6 : (i : Int) ≤ 512) (h : (i : Int) % 2 ≠ 0) (w : World) :
    Calls Try.prog 19 #[.int .i64 b, .int .i64 l, .int .i64 (i : Int)] w fun e w' => e = .returned offG ∧ Below w.heap.size w w' := by
  have W1 := Lib.hid (within_yes b 256 4096 h1 h2)
  have W2 := Lib.hid (within_yes l 128 512 h3 h4)
  have W3 := Lib.hid (within_yes i 8 512 h5 h6)
  have e1 : ((i : Int) % 2 != 0) = true := by rw [bne_iff_ne]; exact h
  clear h h1 h2 h3 h4
  go_enter Try.func19, Try.ntmps19
  go_wp2_with fail
  refine (W1.out _).mono ?_; rintro e w' ⟨rfl, rfl⟩
  go_wp2_with fail
  refine (W2.out _).mono ?_; rintro e w' ⟨rfl, rfl⟩
  go_wp2_with fail
  refine (W3.out _).mono ?_; rintro e w' ⟨rfl, rfl⟩
  go_wp2
  refine bodyPost_ret (v := offG) ?_ rfl ⟨rfl, balloc1 _ _⟩
  rw [results_cell_tmp rfl]
  go_simp
theorem of_off5 (b l i m t : Nat) (h : fitN b l i m t) (h10 : b < 17 + l + m + t) (w : World) :
    Calls Try.prog 19 #[.int .i64 (b : Int), .int .i64 (l : Int), .int .i64 (i : Int)] w fun e w' => e = .returned offG ∧ Below w.heap.size w w' := by
  have L := Lib.hid (laid_any b l i m t h (w.alloc (.cells #[.int .i64 0, .int .i64 0, .int .i64 0, .int .i64 0, .int .i64 0, .int .i64 0, .int .i64 0, .int .i64 0, .int .i64 0] 47)))
  obtain ⟨h1, h2, h3, h4, h5, h6, h7, h8, h9⟩ := h
  have W1 := Lib.hid (within_yes b 256 4096 (by omega) (by omega))
  have W2 := Lib.hid (within_yes l 128 512 (by omega) (by omega))
  have W3 := Lib.hid (within_yes i 8 512 (by omega) (by omega))
  have e1 : ((i : Int) % 2 != 0) = false := by rw [bne_eq_false_iff_eq]; omega
  have hm : m ≤ 4 := by omega
  have ht : t ≤ 256 := by omega
  clear h7 h8 h9
  go_enter Try.func19, Try.ntmps19
  go_wp2_with fail
  refine (W1.out _).mono ?_; rintro e w' ⟨rfl, rfl⟩
  go_wp2_with fail
  refine (W2.out _).mono ?_; rintro e w' ⟨rfl, rfl⟩
  go_wp2_with fail
  refine (W3.out _).mono ?_; rintro e w' ⟨rfl, rfl⟩
  go_wp2_with fail
  refine L.out.mono ?_; rintro e w1 ⟨rfl, hb⟩
  have hres : GeoAt w.heap.size 0 0 0 0 0 0 0 0 0 w1 := (GeoAt.new 0 0 0 0 0 0 0 0 0 w).kept1 hb
  have hbb := below_boxed hb
  have hres := (hres.kept1 (balloc1 w1 (.cells (cellsG b l i 1 (1 + l) m (1 + l + m) t (1 + l + m + t)) 47)))
  go_wp2_with (refine wpList_store_geo rfl _ _ rfl rfl rfl hres ?_)
  intro w2 h2 hl2 hs2 _
  obtain ⟨c0, c1, c2, c3, c4, c5, c6, c7, c8⟩ := h2.cells
  have hbe : Below w.heap.size w w2 := (balloc hbb _).trans hl2
  clear hl2 hs2 hres hb hbb
  go_wp2
  refine bodyPost_ret (v := offG) ?_ rfl ⟨rfl, hbe⟩
  rw [results_cell_tmp rfl]
  go_simp
theorem fit_of {b l i : Int} (h1 : 256 ≤ b) (h2 : b ≤ 4096) (h3 : 128 ≤ l) (h4 : l ≤ 512) (h5 : 8 ≤ i) (h6 : i ≤ 512) (h7 : i % 2 = 0) : ∃ b' l' i' m t : Nat, b = b' ∧ l = l' ∧ i = i' ∧ fitN b' l' i' m t := by
  refine ⟨b.toNat, l.toNat, i.toNat, ((b + 1023) / 1024).toNat, (i / 2).toNat, by omega, by omega, by omega, ?_⟩
  unfold fitN; omega
theorem of_off (b l i : Int) (h : ¬ okG b l i) (w : World) :
    Calls Try.prog 19 #[.int .i64 b, .int .i64 l, .int .i64 i] w fun e w' => e = .returned offG ∧ Below w.heap.size w w' := by
  by_cases h1 : b < 256 ∨ 4096 < b
  · exact of_off1 b l i h1 w
  by_cases h2 : l < 128 ∨ 512 < l
  · exact of_off2 b l i (by omega) (by omega) h2 w
  by_cases h3 : i < 8 ∨ 512 < i
  · exact of_off3 b l i (by omega) (by omega) (by omega) (by omega) h3 w
  by_cases h4 : i % 2 = 0
  · obtain ⟨b', l', i', m, t, rfl, rfl, rfl, hf⟩ := fit_of (b := b) (l := l) (i := i) (by omega) (by omega) (by omega) (by omega) (by omega) (by omega) h4
    refine of_off5 b' l' i' m t hf ?_ w
    by_cases h5 : b' < 17 + l' + m + t
    · exact h5
    · exact absurd (okG_of (m := m) (t := t) (by unfold fitN at hf; unfold okN; omega)) h
  · obtain ⟨j, rfl⟩ := Int.eq_ofNat_of_zero_le (show 0 ≤ i by omega)
    exact of_off4 b l j (by omega) (by omega) (by omega) (by omega) (by omega) (by omega) h4 w
end Go.Proofs.Ytonfloehobcfbaa
