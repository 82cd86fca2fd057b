/- The cache's New; what a cache that is none answers. -/
import Derived.Test.YtehjobjjlldckaaGreatCSync
namespace Go.Proofs.YtehjobjjlldckaaGreat
set_option linter.unusedVariables false
open Go.RowKit

def NewRet (d lo hi most : Nat) (S : St) (w : World) (e : Ending) (w' : World) : Prop :=
  ∃ c M, e = .returned (.tuple #[cV c, .int .i64 0]) ∧ CacheAt c d lo hi M 0 ⟨S, most, []⟩ w' ∧ Below w.heap.size w w' ∧ ∀ k, M k → w.heap.size ≤ k
set_option maxRecDepth 100000 in
set_option maxHeartbeats 4000000 in
theorem cnew_yes {d lo hi most : Nat} {S : St} (h1 : 1 ≤ most) (h2 : most ≤ 256) (w : World) (hd : DevAt d lo hi S w) :
    Calls Tryz.prog 7 #[.pointer (some ⟨d, 0, none⟩), .int .i64 (most : Int)] w (NewRet d lo hi most S w) := by
  have hmm := @run_makeMap Tryz.prog
  have B := Lib.hid (blocks_any w hd)
  have hn := hd.ok.lo
  have t1 : ((S.n : Int) == 0) = false := by rw [beq_eq_false_iff_ne]; omega
  have HR : Hid (NewRet d lo hi most S w (.returned (.tuple #[.pointer (some ⟨w.heap.size + 1, 0, none⟩), .int .i64 0])) ((w.alloc (.map #[] 0)).alloc (.cells (cellsC (w.heap.size + 1) d w.heap.size most 0 (.slice none 0 0)) 68))) := Lib.hid (by
    have sz1 : (w.alloc (.map #[] 0)).heap.size = w.heap.size + 1 := size_alloc _ _
    have b1 := balloc1 w (.map #[] 0)
    have hb4 : Below w.heap.size w ((w.alloc (.map #[] 0)).alloc (.cells (cellsC (w.heap.size + 1) d w.heap.size most 0 (.slice none 0 0)) 68)) := balloc b1 _
    have htop := hd.top
    have hblk : Blk (w.heap.size + 1) (cellsC (w.heap.size + 1) d w.heap.size most 0 (.slice none 0 0)) 68 ((w.alloc (.map #[] 0)).alloc (.cells (cellsC (w.heap.size + 1) d w.heap.size most 0 (.slice none 0 0)) 68)) := by
      have := Blk.new (cellsC (w.heap.size + 1) d w.heap.size most 0 (.slice none 0 0)) 68 (w.alloc (.map #[] 0))
      rw [sz1] at this
      exact this
    have hd4 := hd.kept1 hb4
    have hm : MapAt w.heap.size 0 (adrOf (fun _ => ⟨0, ⟨#[]⟩, false, false, 0⟩) []) ((w.alloc (.map #[] 0)).alloc (.cells (cellsC (w.heap.size + 1) d w.heap.size most 0 (.slice none 0 0)) 68)) := (MapAt.made w).turn (Turn.of_below (balloc1 _ _) fun _ => False) (fun h => h)
    refine ⟨w.heap.size + 1, _, rfl, ⟨w.heap.size, none, 0, fun _ => 0, fun _ => ⟨0, ⟨#[]⟩, false, false, 0⟩, [], ⟨⟨hd.ok, h1, h2, Nat.zero_le _, fun x hx => (by cases hx), fun x hx => (by cases hx), List.nodup_nil⟩, hd4, ⟨rfl, hblk, hole_cells _ _ _ _ _⟩, fun k _ hk => absurd hk (by show ¬ k < 0; omega), hm, rfl, fun x => ⟨fun ⟨i, hi, _⟩ => absurd hi (by show ¬ i < 0; omega), fun hx => (by cases hx)⟩, List.Pairwise.nil, fun g hg => (by cases hg), ⟨by omega, (fun e => by cases e), (fun g hg => by cases hg), by omega, by omega, (fun k e => by cases e), (fun g hg => by cases hg)⟩⟩, Nat.le_refl _, rfl⟩, hb4, fun k hk => ?_⟩
    rcases hk with e | e | e | e
    · omega
    · omega
    · cases e
    · cases e)
  have s1 : (w.alloc (.map #[] 0)).heap.size = w.heap.size + 1 := size_alloc _ _
  clear hd
  go_enter Tryz.func7, Tryz.ntmps7
  go_wp2_with fail
  refine B.out.mono ?_; rintro e w' ⟨rfl, rfl⟩
  go_wp2
  go_ret2
  exact HR.out
theorem cnew_arg {d lo hi : Nat} {S : St} (n : Int) (h : n < 1 ∨ 256 < n) (w : World) (hd : DevAt d lo hi S w) :
    Calls Tryz.prog 7 #[.pointer (some ⟨d, 0, none⟩), .int .i64 n] w fun e w' => e = .returned (.tuple #[.pointer none, .int .i64 2]) ∧ w = w' := by
  have B := Lib.hid (blocks_any w hd)
  have hn := hd.ok.lo
  have t1 : ((S.n : Int) == 0) = false := by rw [beq_eq_false_iff_ne]; omega
  clear hd
  rcases h with h | h
  · go_enter Tryz.func7, Tryz.ntmps7
    go_wp2_with fail
    refine B.out.mono ?_; rintro e w' ⟨rfl, rfl⟩
    go_wp2
    go_ret2
    exact ⟨rfl, rfl⟩
  · have h1 : 1 ≤ n := by omega
    go_enter Tryz.func7, Tryz.ntmps7
    go_wp2_with fail
    refine B.out.mono ?_; rintro e w' ⟨rfl, rfl⟩
    go_wp2
    go_ret2
    exact ⟨rfl, rfl⟩
theorem blocks_nodev (v : Value) (w : World) (h : NoDev v w) : Calls Tryz.prog 27 #[v] w fun e w' => e = .returned (.int .i64 0) ∧ w = w' := by
  have M := Lib.hid (missing_yes v w h)
  clear h
  go_enter Tryz.func27, Tryz.ntmps27
  go_wp2_with fail
  refine M.out.mono ?_; rintro e w' ⟨rfl, rfl⟩
  go_wp2
  go_ret
  exact ⟨rfl, rfl⟩
theorem cnew_none (v : Value) (n : Int) (w : World) (h : NoDev v w) : Calls Tryz.prog 7 #[v, .int .i64 n] w fun e w' => e = .returned (.tuple #[.pointer none, .int .i64 1]) ∧ w = w' := by
  have M := Lib.hid (blocks_nodev v w h)
  clear h
  go_enter Tryz.func7, Tryz.ntmps7
  go_wp2_with fail
  refine M.out.mono ?_; rintro e w' ⟨rfl, rfl⟩
  go_wp2
  go_ret2
  exact ⟨rfl, rfl⟩
theorem cfind_none (v : Value) (b : Int) (w : World) (h : NoCache v w) : Calls Tryz.prog 55 #[v, .int .i64 b] w fun e w' => e = .returned (.pointer none) ∧ w = w' := by
  have M := Lib.hid (cmissing_yes v w h)
  clear h
  go_enter Tryz.func55, Tryz.ntmps55
  go_wp2_with fail
  refine M.out.mono ?_; rintro e w' ⟨rfl, rfl⟩
  go_wp2
  go_ret
  exact ⟨rfl, rfl⟩
theorem cget_none (v : Value) (b : Int) (w : World) (h : NoCache v w) : Calls Tryz.prog 33 #[v, .int .i64 b] w fun e w' => e = .returned (.tuple #[.string ⟨#[]⟩, .int .i64 1]) ∧ w = w' := by
  have M := Lib.hid (cmissing_yes v w h)
  clear h
  go_enter Tryz.func33, Tryz.ntmps33
  go_wp2_with fail
  refine M.out.mono ?_; rintro e w' ⟨rfl, rfl⟩
  go_wp2
  go_ret2
  exact ⟨rfl, rfl⟩
theorem cput_none (v : Value) (b : Int) (s : ByteArray) (p : Bool) (w : World) (h : NoCache v w) : Calls Tryz.prog 31 #[v, .int .i64 b, .string s, .bool p] w fun e w' => e = .returned (.int .i64 1) ∧ w = w' := by
  have M := Lib.hid (cmissing_yes v w h)
  clear h
  go_enter Tryz.func31, Tryz.ntmps31
  go_wp2_with fail
  refine M.out.mono ?_; rintro e w' ⟨rfl, rfl⟩
  go_wp2
  go_ret
  exact ⟨rfl, rfl⟩
theorem cout_none (v : Value) (b : Int) (w : World) (h : NoCache v w) : Calls Tryz.prog 37 #[v, .int .i64 b] w fun e w' => e = .returned (.int .i64 1) ∧ w = w' := by
  have M := Lib.hid (cmissing_yes v w h)
  clear h
  go_enter Tryz.func37, Tryz.ntmps37
  go_wp2_with fail
  refine M.out.mono ?_; rintro e w' ⟨rfl, rfl⟩
  go_wp2
  go_ret
  exact ⟨rfl, rfl⟩
theorem csync_none (v : Value) (w : World) (h : NoCache v w) : Calls Tryz.prog 38 #[v] w fun e w' => e = .returned (.int .i64 1) ∧ w = w' := by
  have M := Lib.hid (cmissing_yes v w h)
  clear h
  go_enter Tryz.func38, Tryz.ntmps38
  go_wp2_with fail
  refine M.out.mono ?_; rintro e w' ⟨rfl, rfl⟩
  go_wp2
  go_ret
  exact ⟨rfl, rfl⟩
theorem cmarked_none (v fn : Value) (w : World) (h : NoCache v w) : Calls Tryz.prog 50 #[v, fn] w fun e w' => e = .returned (.slice none 0 0) ∧ w = w' := by
  have M := Lib.hid (cmissing_yes v w h)
  clear h
  go_enter Tryz.func50, Tryz.ntmps50
  go_wp2_with fail
  refine M.out.mono ?_; rintro e w' ⟨rfl, rfl⟩
  go_wp2
  go_ret
  exact ⟨rfl, rfl⟩
theorem cdirty_none (v : Value) (w : World) (h : NoCache v w) : Calls Tryz.prog 12 #[v] w fun e w' => e = .returned (.slice none 0 0) ∧ w = w' := by
  have M := Lib.hid fun fn => cmarked_none v fn w h
  clear h
  go_enter Tryz.func12, Tryz.ntmps12
  go_wp2_with fail
  refine (M.out _).mono ?_; rintro e w' ⟨rfl, rfl⟩
  go_wp2
  go_ret
  exact ⟨rfl, rfl⟩
theorem cpinned_none (v : Value) (w : World) (h : NoCache v w) : Calls Tryz.prog 13 #[v] w fun e w' => e = .returned (.slice none 0 0) ∧ w = w' := by
  have M := Lib.hid fun fn => cmarked_none v fn w h
  clear h
  go_enter Tryz.func13, Tryz.ntmps13
  go_wp2_with fail
  refine (M.out _).mono ?_; rintro e w' ⟨rfl, rfl⟩
  go_wp2
  go_ret
  exact ⟨rfl, rfl⟩
theorem cunpin_none (v : Value) (b : Int) (w : World) (h : NoCache v w) : Calls Tryz.prog 35 #[v, .int .i64 b] w fun e w' => e = .returned (.tuple #[]) ∧ w = w' := by
  have M := Lib.hid (cfind_none v b w h)
  clear h
  go_enter Tryz.func35, Tryz.ntmps35
  go_wp2_with fail
  refine M.out.mono ?_; rintro e w' ⟨rfl, rfl⟩
  go_wp2
  go_end0
  exact ⟨rfl, rfl⟩
theorem cforget_none (v : Value) (b : Int) (w : World) (h : NoCache v w) : Calls Tryz.prog 36 #[v, .int .i64 b] w fun e w' => e = .returned (.tuple #[]) ∧ w = w' := by
  have M := Lib.hid (cfind_none v b w h)
  clear h
  go_enter Tryz.func36, Tryz.ntmps36
  go_wp2_with fail
  refine M.out.mono ?_; rintro e w' ⟨rfl, rfl⟩
  go_wp2
  go_end0
  exact ⟨rfl, rfl⟩
theorem chas_none (v : Value) (b : Int) (w : World) (h : NoCache v w) : Calls Tryz.prog 19 #[v, .int .i64 b] w fun e w' => e = .returned (.bool false) ∧ w = w' := by
  have M := Lib.hid (cfind_none v b w h)
  clear h
  go_enter Tryz.func19, Tryz.ntmps19
  go_wp2_with fail
  refine M.out.mono ?_; rintro e w' ⟨rfl, rfl⟩
  go_wp2
  go_ret
  exact ⟨rfl, rfl⟩
end Go.Proofs.YtehjobjjlldckaaGreat
