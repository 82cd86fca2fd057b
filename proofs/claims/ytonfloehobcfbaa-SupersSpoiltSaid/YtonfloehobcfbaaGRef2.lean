/- The document's Of, where its loop is come to. -/
import Derived.Test.YtonfloehobcfbaaGRef
namespace Go.Proofs.Ytonfloehobcfbaa
set_option linter.unusedVariables false
open Go.RowKit

set_option maxHeartbeats 2000000 in
theorem rof_fit (b l i m t : Nat) (h : fitN b l i m t) (r : Value) (hr : (b < 17 + l + m + t ∧ r = offG) ∨ (17 + l + m + t ≤ b ∧ r = .tuple #[lay b l i m t, .int .i64 0])) (w : World) :
    Calls Try.prog 28 #[.int .i64 (b : Int), .int .i64 (l : Int), .int .i64 (i : Int)] w fun e w' => e = .returned r ∧ Below w.heap.size w w' := by
  obtain ⟨h1, h2, h3, h4, h5, h6, h7, h8, h9⟩ := h
  have e1 : ((i : Int) % 2 != 0) = false := by rw [bne_eq_false_iff_eq]; omega
  have e2 : (i : Int) / 2 = (t : Int) := by omega
  have hm : m ≤ 4 := by omega
  have ht : t ≤ 256 := by omega
  have HM : Hid (b ≤ m * 1024 ∧ m * 1024 < b + 1024) := Lib.hid ⟨h8, h9⟩
  clear h7 h8 h9
  go_enter Try.func28, Try.ntmps28
  go_wp2
  go_loopw [] (fun wr => ∃ k : Nat, k ≤ m ∧ GeoAt (w.heap.size + 1) b l i 1 (1 + l) k 0 0 0 wr ∧ GeoAt w.heap.size 0 0 0 0 0 0 0 0 0 wr ∧ Below w.heap.size w wr) (fun wr => m - cellNat (w.heap.size + 1) 5 wr)
  case atStart =>
    refine ⟨0, Nat.zero_le _, ?_, ?_, ?_⟩
    · exact heap_alloc_at _ _ (size_alloc _ _)
    · exact (GeoAt.new 0 0 0 0 0 0 0 0 0 w).kept1 (balloc1 _ _)
    · exact balloc (balloc1 _ _) _
  case round =>
    obtain ⟨k, hk, hg, hz, hb⟩ := hrel
    obtain ⟨c0, c1, c2, c3, c4, c5, c6, c7, c8⟩ := hg.cells
    have hf := hg.frozen
    by_cases hlt : k < m
    · have h8 : (k : Int) * 1024 < (b : Int) := by have := HM.out; omega
      have H2 : Hid (GeoAt (w.heap.size + 1) b l i 1 (1 + l) ((k : Int) + 1) 0 0 0 (wr.setCell ⟨w.heap.size + 1, 5, none⟩ (.int .i64 ((k : Int) + 1)))) := Lib.hid (hg.setRow 5 _)
      have H3 : Hid (GeoAt w.heap.size 0 0 0 0 0 0 0 0 0 (wr.setCell ⟨w.heap.size + 1, 5, none⟩ (.int .i64 ((k : Int) + 1)))) := Lib.hid (hz.set (by show _ + 1 ≠ _; omega) _)
      go_wp2
      refine ⟨⟨k + 1, hlt, H2.out, H3.out, hb.setCell (by show _ ≤ _ + 1; omega) _⟩, ?_⟩
      have n1 := hg.num
      have n2 := H2.out.num
      rw [n1, n2]; omega
    · obtain rfl : k = m := by omega
      have h8 : (b : Int) ≤ (k : Int) * 1024 := by have := HM.out.1; omega
      clear HM
      have hz3 : ∀ v6 v7 v8, GeoAt w.heap.size 0 0 0 0 0 0 0 0 0 (((wr.setCell ⟨w.heap.size + 1, 6, none⟩ v6).setCell ⟨w.heap.size + 1, 7, none⟩ v7).setCell ⟨w.heap.size + 1, 8, none⟩ v8) := fun v6 v7 v8 =>
        ((hz.set (by show _ + 1 ≠ _; omega) _).set (by show _ + 1 ≠ _; omega) _).set (by show _ + 1 ≠ _; omega) _
      have hb3 : ∀ v6 v7 v8, Below w.heap.size w (((wr.setCell ⟨w.heap.size + 1, 6, none⟩ v6).setCell ⟨w.heap.size + 1, 7, none⟩ v7).setCell ⟨w.heap.size + 1, 8, none⟩ v8) := fun v6 v7 v8 =>
        ((hb.setCell (by show _ ≤ _ + 1; omega) _).setCell (by show _ ≤ _ + 1; omega) _).setCell (by show _ ≤ _ + 1; omega) _
      have HB := Lib.hid hb3
      have HZ := Lib.hid hz3
      clear hz hg hb hz3 hb3
      rcases hr with ⟨h10, rfl⟩ | ⟨h10, rfl⟩
      · go_wp2_with (refine wpList_store_geo0 rfl _ _ rfl rfl rfl ?_ ?_)
        · exact HZ.out _ _ _
        intro w2 h2 hl2 hs2 _
        have hbe := (HB.out _ _ _).trans hl2
        obtain ⟨c0, c1, c2, c3, c4, c5, c6, c7, c8⟩ := h2.cells
        clear hl2 hs2
        go_wp2
        refine bodyPost_ret (v := offG) ?_ rfl ⟨rfl, hbe⟩
        rw [results_cell_tmp rfl]
        go_simp
      · go_wp2_with (refine wpList_store_geo0 rfl _ _ rfl rfl rfl ?_ ?_)
        · exact HZ.out _ _ _
        intro w2 h2 hl2 hs2 _
        have hbe := (HB.out _ _ _).trans hl2
        obtain ⟨c0, c1, c2, c3, c4, c5, c6, c7, c8⟩ := h2.cells
        clear hl2 hs2
        go_wp2
        refine bodyPost_ret (v := .tuple #[lay b l i k t, .int .i64 0]) ?_ rfl ⟨rfl, hbe⟩
        rw [results_cell_tmp rfl]
        go_simp
theorem rof_off (b l i : Int) (h : ¬ okG b l i) (w : World) :
    Calls Try.prog 28 #[.int .i64 b, .int .i64 l, .int .i64 i] w fun e w' => e = .returned offG ∧ Below w.heap.size w w' := by
  by_cases h1 : b < 256
  · exact rof_off1 b l i h1 w
  by_cases h2 : 4096 < b
  · exact rof_off2 b l i (by omega) h2 w
  by_cases h3 : l < 128
  · exact rof_off3 b l i (by omega) (by omega) h3 w
  by_cases h4 : 512 < l
  · exact rof_off4 b l i (by omega) (by omega) (by omega) h4 w
  by_cases h5 : i < 8
  · exact rof_off5 b l i (by omega) (by omega) (by omega) (by omega) h5 w
  by_cases h6 : 512 < i
  · exact rof_off6 b l i (by omega) (by omega) (by omega) (by omega) (by omega) h6 w
  by_cases h7 : i % 2 = 0
  · obtain ⟨b', l', i', m, t, rfl, rfl, rfl, hf⟩ := fit_of (b := b) (l := l) (i := i) (by omega) (by omega) (by omega) (by omega) (by omega) (by omega) h7
    refine rof_fit b' l' i' m t hf _ (.inl ⟨?_, rfl⟩) w
    by_cases h8 : b' < 17 + l' + m + t
    · exact h8
    · exact absurd (okG_of (m := m) (t := t) (by unfold fitN at hf; unfold okN; omega)) h
  · obtain ⟨j, rfl⟩ := Int.eq_ofNat_of_zero_le (show 0 ≤ i by omega)
    exact rof_off7 b l j (by omega) (by omega) (by omega) (by omega) (by omega) (by omega) h7 w
theorem rof_yes (b l i m t : Nat) (h : okN b l i m t) (w : World) :
    Calls Try.prog 28 #[.int .i64 (b : Int), .int .i64 (l : Int), .int .i64 (i : Int)] w fun e w' => e = .returned (.tuple #[lay b l i m t, .int .i64 0]) ∧ Below w.heap.size w w' :=
  rof_fit b l i m t (okN_fit h) _ (.inr ⟨by unfold okN at h; omega, rfl⟩) w
end Go.Proofs.Ytonfloehobcfbaa
