/- Rows of runs in memory; the document's Free. -/
import Derived.Test.YtddbceecamenhaaBWith
import Derived.Laws.OwnMore
import Derived.OneCell
namespace Go.Proofs.Ytddbceecamenhaa
set_option linter.unusedVariables false
open Go.RowKit

/-- the cells of a list of runs -/
def cellsR : List (Nat × Nat) → List Value
  | [] => []
  | r :: l => .int .i64 (r.1 : Int) :: .int .i64 (r.2 : Int) :: cellsR l
theorem cellsR_length : ∀ l, (cellsR l).length = l.length * 2
  | [] => rfl
  | r :: l => by rw [cellsR, List.length_cons, List.length_cons, cellsR_length l, List.length_cons]; omega
theorem cellsR_append : ∀ a b, cellsR (a ++ b) = cellsR a ++ cellsR b
  | [], b => rfl
  | r :: a, b => by rw [List.cons_append, cellsR, cellsR, cellsR_append a b]; rfl
theorem cellsR_at : ∀ (l : List (Nat × Nat)) (k : Nat) (h : k < l.length), (cellsR l)[k * 2]? = some (.int .i64 ((l[k].1 : Nat) : Int)) ∧ (cellsR l)[k * 2 + 1]? = some (.int .i64 ((l[k].2 : Nat) : Int))
  | r :: l, 0, _ => ⟨rfl, rfl⟩
  | r :: l, k + 1, h => by
    have := cellsR_at l k (by simpa using h)
    rw [show (k + 1) * 2 = k * 2 + 1 + 1 by omega, cellsR]
    exact this
theorem cellsR_last (l : List (Nat × Nat)) (a b c : Nat) : (cellsR (l ++ [(a, b)])).set (l.length * 2 + 1) (.int .i64 (c : Int)) = cellsR (l ++ [(a, c)]) := by
  rw [cellsR_append, cellsR_append, List.set_append_right _ _ (by rw [cellsR_length]; omega), cellsR_length]
  rw [show l.length * 2 + 1 - l.length * 2 = 1 by omega]; rfl

/-- v holds the runs, in a row of the call's own, at B or behind -/
abbrev RunsAt (B : Nat) (v : Value) (l : List (Nat × Nat)) (w : World) : Prop := w.ownsRow B 31 2 v l.length (cellsR l)

theorem shape_of {w : World} {B n : Nat} {v : Value} {e : TypeId} {z : Nat} {xs : List Value} (h : w.ownsRow B e z v n xs) : ∃ ad cap, v = .slice ad n cap ∧ (0 < n → ∃ g, ad = some ⟨g, 0, none⟩ ∧ B ≤ g) := by
  rcases h.2 with ⟨rfl, rfl⟩ | ⟨g, cap, cur, rfl, hb, _⟩
  · exact ⟨_, _, rfl, fun h => by omega⟩
  · exact ⟨_, _, rfl, fun _ => ⟨g, rfl, hb⟩⟩
theorem info_run : (Try.prog.info? 31).map (fun i => (i.zero, i.size, i.bytes)) = some (some (.agg #[.int .i64 0, .int .i64 0]), 2, 16) := by kernel_rfl
theorem run_cells {B g cap : Nat} {l : List (Nat × Nat)} {w : World} {n : Nat} (h : w.ownsRow B 31 2 (.slice (some ⟨g, 0, none⟩) n cap) n (cellsR l)) (k : Nat) (hk : k < l.length) :
    w.cell? ⟨g, k * 2, none⟩ = some (.int .i64 ((l[k].1 : Nat) : Int)) ∧ w.cell? ⟨g, k * 2 + 1, none⟩ = some (.int .i64 ((l[k].2 : Nat) : Int)) := by
  have e : n * 2 = l.length * 2 := by rw [← cellsR_length, ← h.1]
  obtain ⟨h1, h2⟩ := cellsR_at l k hk
  exact ⟨(h.cellAt _ (by omega)).trans h1, (h.cellAt _ (by omega)).trans h2⟩

/-- a run that is new in memory -/
theorem new_cells (w : World) (a b : Int) : ∀ (j : Nat) (u : Value), [Value.int .i64 a, Value.int .i64 b][j]? = some u → (w.alloc (.cells #[.int .i64 a, .int .i64 b] 31)).cell? ((⟨w.heap.size, 0, none⟩ : Addr).add j) = some u := by
  intro j u hj
  have hadd : (⟨w.heap.size, 0, none⟩ : Addr).add j = ⟨w.heap.size, j, none⟩ := by unfold Addr.add; split <;> simp_all
  rw [hadd, World.cell?_alloc_mark]
  simpa using hj
theorem one_cells (a b : Int) : ∀ u ∈ [Value.int .i64 a, Value.int .i64 b], u.oneCell' = true := by
  intro u hu; simp at hu; rcases hu with rfl | rfl <;> rfl
theorem runs_snoc {B m a b : Nat} {v : Value} {l : List (Nat × Nat)} {w : World} (hm : l.length = m) (h : w.ownsRow B 31 2 v (m + 1) (cellsR l ++ [.int .i64 (a : Int), .int .i64 (b : Int)])) : RunsAt B v (l ++ [(a, b)]) w := by
  subst hm
  show w.ownsRow _ _ _ _ (l ++ [(a, b)]).length (cellsR (l ++ [(a, b)]))
  rw [cellsR_append, List.length_append]; exact h
theorem last_of {l : List (Nat × Nat)} {j : Nat} (h : l.length = j + 1) : l.getLast? = some (l[j]'(by omega)) := by
  rw [List.getLast?_eq_getElem?, List.getElem?_eq_getElem (by omega)]
  congr 2; omega

set_option maxHeartbeats 2000000 in
theorem rfree_any (s : ByteArray) (hs : s.size ≤ 2000) (n : Int) (hn : n ≤ 9223372036854775807) (w : World) :
    Calls Try.prog 16 #[.string s, .int .i64 n] w fun e w' => ∃ v, e = .returned v ∧ RunsAt w.heap.size v (runs (bitAt s) (firstV s n)) w' ∧ Below w.heap.size w w' := by
  have F := Lib.hid (rfirst_any s hs n hn)
  have RH := Lib.hid (rhas_any s hs)
  have hN := firstV_le s n
  generalize firstV s n = N at *
  obtain ⟨i0, hi, hz0, hz1, hz2⟩ := info_parts info_run
  go_enter Try.func16, Try.ntmps16
  go_wp2
  go_loopw [5, 6] (fun v p wr => ∃ k : Nat, p = .int .i64 k ∧ k ≤ N ∧ RunsAt w.heap.size v (runs (bitAt s) k) wr ∧ Below w.heap.size w wr) (fun _ p _ => N - (intOf p).toNat)
  case atStart => exact ⟨0, rfl, Nat.zero_le _, World.ownsRow_nil _ _ _ _, Below.refl _ _⟩
  case round =>
    obtain ⟨k, rfl, hk, hown, hb⟩ := hrel
    obtain ⟨ad, cap, rfl, had⟩ := shape_of hown
    have hlen := runs_len (bitAt s) k
    by_cases hlt : k < N
    · have R := RH.out k (by omega)
      rw [hasV_nat] at R
      have R := Lib.hid R
      clear RH
      by_cases hbit : bitAt s k = true
      · have HR := Lib.hid (runs_one hbit)
        rw [hbit] at R
        go_wp2_with fail
        refine (F.out _).mono ?_; rintro e w' ⟨rfl, rfl⟩
        go_wp2_with fail
        refine (R.out _).mono ?_; rintro e w' ⟨rfl, rfl⟩
        go_wp2
        exact ⟨⟨k + 1, by go_num, by omega, by rw [HR.out]; exact hown, hb⟩, by simp [intOf]; omega⟩
      · have hbit : bitAt s k = false := by simpa using hbit
        rw [hbit] at R
        by_cases hp : 0 < pend (bitAt s) k
        · obtain ⟨e1, e2⟩ := runs_more hbit hp
          have hle : (runs (bitAt s) k).length = (closed (bitAt s) k).length + 1 := by rw [e1]; simp
          have hown : wr.ownsRow w.heap.size 31 2 (.slice ad (runs (bitAt s) k).length cap) (runs (bitAt s) k).length (cellsR (runs (bitAt s) k)) := hown
          rw [hle] at hown had hlen ⊢
          rw [e1] at hown
          obtain ⟨g, rfl, hg⟩ := had (by omega)
          have hpk := pend_le (bitAt s) k
          generalize closed (bitAt s) k = l at *
          generalize hap : k - pend (bitAt s) k = a at *
          generalize pend (bitAt s) k = c at *
          have HR := Lib.hid e2
          have hac : (a : Int) + (c : Int) = (k : Int) := by omega
          have hl2 : l.length ≤ 16000 := by omega
          obtain ⟨q1, q2⟩ := run_cells hown l.length (by simp)
          simp only [List.getElem_append_right (Nat.le_refl _), Nat.sub_self, List.getElem_cons_zero] at q1 q2
          have q3 := hown.frozenAt (l.length * 2 + 1)
          have d1 : ∀ q, (wr.drewN q).cell? ⟨g, l.length * 2, none⟩ = some (.int .i64 (a : Int)) := fun _ => q1
          have d2 : ∀ q, (wr.drewN q).cell? ⟨g, l.length * 2 + 1, none⟩ = some (.int .i64 (c : Int)) := fun _ => q2
          have d3 : ∀ q, (wr.drewN q).frozen? ⟨g, l.length * 2 + 1, none⟩ = false := fun _ => q3
          have hs2 : ∀ q, ((wr.drewN q).setCell ⟨g, l.length * 2 + 1, none⟩ (.int .i64 ((c + 1 : Nat) : Int))).ownsRow w.heap.size 31 2 (.slice (some ⟨g, 0, none⟩) (l.length + 1) cap) (l.length + 1) (cellsR (l ++ [(a, c + 1)])) := fun q => by
            have h := (World.ownsRow.stored (w := wr.drewN q) hown (l.length * 2 + 1) (.int .i64 ((c + 1 : Nat) : Int))).1
            rw [cellsR_last] at h; exact h
          have HS := Lib.hid hs2
          clear had hlen hle e1 e2 hp hs2 hap hpk q1 q2 q3
          go_wp2_with fail
          refine (F.out _).mono ?_; rintro e w' ⟨rfl, rfl⟩
          go_wp2_with fail
          refine (R.out _).mono ?_; rintro e w' ⟨rfl, rfl⟩
          go_wp2
          go_quiet (fail)
          go_wp2
          refine ⟨⟨k + 1, by go_num, by omega, ?_, (below_drewN hb _).setCell (by exact hg) _⟩, by simp [intOf]; omega⟩
          rw [HR.out]
          show World.ownsRow _ _ _ _ _ (l ++ [(a, c + 1)]).length _
          rw [List.length_append]
          exact HS.out _
        · have HR := Lib.hid (runs_new hbit (by omega))
          have hown2 : ∀ q, (wr.drewN q).ownsRow w.heap.size 31 2 (.slice ad (runs (bitAt s) k).length cap) (runs (bitAt s) k).length (cellsR (runs (bitAt s) k)) := fun q => hown
          have hb2 : ∀ q, Below w.heap.size w (wr.drewN q) := fun q => below_drewN hb q
          have hsz : w.heap.size ≤ wr.heap.size := hb.size
          have hbw : ∀ q, (wr.drewN q).heap.size = wr.heap.size := fun q => rfl
          have hL : Hid (∀ r, (runs (bitAt s) k).getLast? = some r → r.1 + r.2 ≠ k) := Lib.hid fun r hr he => by
            have := (last_ends (bitAt s) k hr).1 he; omega
          have hcut : ∀ m : Nat, (runs (bitAt s) k).length = m → m = 0 ∨ ∃ j, m = j + 1 := fun m _ => by cases m <;> simp
          rcases hcut _ rfl with h0 | ⟨j, hj⟩
          · generalize runs (bitAt s) k = l at *
            have HL0 := Lib.hid h0
            rw [h0] at hown hown2 had
            clear hcut hlen
            go_wp2_with fail
            refine (F.out _).mono ?_; rintro e w' ⟨rfl, rfl⟩
            go_wp2_with fail
            refine (R.out _).mono ?_; rintro e w' ⟨rfl, rfl⟩
            go_wp2
            go_quiet (fail)
            go_wp2_with (at_builtin; refine wpList_append_own _ rfl _ _ 26 rfl w.heap.size 31 i0 (.agg #[.int .i64 0, .int .i64 0]) 2 16 Try.underlying26 hi hz0 hz1 hz2 rfl (by decide) _ _ _ rfl ((hown2 _).alloc _) ⟨wr.heap.size, 0, none⟩ 1 1 [.int .i64 (k : Int), .int .i64 1] rfl rfl (new_cells (wr.drewN _) _ _) (one_cells _ _) (by unfold maxLen; omega) (by omega) (by show _ ≤ (wr.heap.push _).size; simp; omega) ?_)
            intro v' w1 hown' hgrow _
            have hr := runs_snoc (a := k) (b := 1) HL0.out hown'
            have hb3 : Below w.heap.size w w1 := ((hb2 _).alloc (by exact hsz) _).grown hgrow (by show _ ≤ (wr.heap.push _).size; simp; omega) (fun x hx => by have := ((hown2 0).lt x hx).1; omega)
            clear hown' hgrow hown hown2 hb2
            go_wp2
            exact ⟨⟨k + 1, by go_num, by omega, by rw [HR.out]; exact hr, hb3⟩, by simp [intOf]; omega⟩
          · have hl := last_of hj
            have hmem := fun r hr => ((rising_runs (bitAt s) k).mem r hr).2.2
            generalize runs (bitAt s) k = l at *
            have hac := hmem (l[j]'(by omega)) (List.getElem_mem _)
            have HL0 := Lib.hid hj
            have hne := hL.out _ hl
            obtain ⟨g, rfl, hg⟩ := had (by omega)
            obtain ⟨q1, q2⟩ := run_cells hown j (by omega)
            generalize l[j].1 = a at *
            generalize l[j].2 = c at *
            have d1 : ∀ q, (wr.drewN q).cell? ⟨g, j * 2, none⟩ = some (.int .i64 (a : Int)) := fun _ => q1
            have d2 : ∀ q, (wr.drewN q).cell? ⟨g, j * 2 + 1, none⟩ = some (.int .i64 (c : Int)) := fun _ => q2
            have d3 : ((a : Int) + (c : Int) == (k : Int)) = false := by
              rw [beq_eq_false_iff_ne]; omega
            have hj2 : j ≤ 16000 := by omega
            rw [hj] at hown hown2
            clear hcut hlen had hL hl hne q1 q2 hmem
            go_wp2_with fail
            refine (F.out _).mono ?_; rintro e w' ⟨rfl, rfl⟩
            go_wp2_with fail
            refine (R.out _).mono ?_; rintro e w' ⟨rfl, rfl⟩
            go_wp2
            go_quiet (fail)
            go_wp2_with (at_builtin; refine wpList_append_own _ rfl _ _ 26 rfl w.heap.size 31 i0 (.agg #[.int .i64 0, .int .i64 0]) 2 16 Try.underlying26 hi hz0 hz1 hz2 rfl (by decide) _ _ _ rfl ((hown2 _).alloc _) ⟨wr.heap.size, 0, none⟩ 1 1 [.int .i64 (k : Int), .int .i64 1] rfl rfl (new_cells (wr.drewN _) _ _) (one_cells _ _) (by unfold maxLen; omega) (by omega) (by show _ ≤ (wr.heap.push _).size; simp; omega) ?_)
            intro v' w1 hown' hgrow _
            have hr := runs_snoc (a := k) (b := 1) HL0.out hown'
            have hb3 : Below w.heap.size w w1 := ((hb2 _).alloc (by exact hsz) _).grown hgrow (by show _ ≤ (wr.heap.push _).size; simp; omega) (fun x hx => by have := ((hown2 0).lt x hx).1; omega)
            clear hown' hgrow hown hown2 hb2
            go_wp2
            exact ⟨⟨k + 1, by go_num, by omega, by rw [HR.out]; exact hr, hb3⟩, by simp [intOf]; omega⟩
    · obtain rfl : k = N := by omega
      clear RH
      go_wp2_with fail
      refine (F.out _).mono ?_; rintro e w' ⟨rfl, rfl⟩
      go_wp2
      go_ret
      exact ⟨_, rfl, hown, hb⟩

end Go.Proofs.Ytddbceecamenhaa
