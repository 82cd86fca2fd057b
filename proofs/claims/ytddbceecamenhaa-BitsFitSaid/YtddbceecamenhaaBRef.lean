/- The document's Fit and First; SameRuns. -/
import Derived.Test.YtddbceecamenhaaBFit
import Derived.Laws.StructEq
namespace Go.Proofs.Ytddbceecamenhaa
set_option linter.unusedVariables false
open Go.RowKit

theorem row_kept {B n : Nat} {v : Value} {e : TypeId} {z : Nat} {xs : List Value} {w w' : World} (h : w.ownsRow B e z v n xs) (hb : Below w.heap.size w w') : w'.ownsRow B e z v n xs :=
  ⟨h.1, h.2.imp id fun ⟨g, cap, cur, a, b, c, r⟩ => ⟨g, cap, cur, a, b, (hb.block g (lt_of_block c)).trans c, r⟩⟩
theorem take_next {l : List (Nat × Nat)} {k : Nat} (h : k < l.length) : l.take k ++ [(l[k].1, l[k].2)] <+: l := by
  have e : l.take k ++ [(l[k].1, l[k].2)] = l.take (k + 1) := by rw [List.take_succ_eq_append_getElem h]
  rw [e]; exact List.take_prefix _ _
theorem find_next {p : Nat × Nat → Bool} {l : List (Nat × Nat)} {k : Nat} (h : k < l.length) (h0 : (l.take k).find? p = none) (h1 : p (l[k].1, l[k].2) = false) : (l.take (k + 1)).find? p = none := by
  have h1 : p l[k] = false := h1
  rw [List.take_succ_eq_append_getElem h, List.find?_append, h0]; simp [h1]

set_option maxHeartbeats 1000000 in
theorem rfit_zero (s : ByteArray) (n size «from» : Int) (hsz : size < 1) (w : World) :
    Calls Try.prog 23 #[.string s, .int .i64 n, .int .i64 size, .int .i64 «from»] w fun e w' => e = .returned (fitRes none size) ∧ Below w.heap.size w w' := by
  go_enter Try.func23, Try.ntmps23
  go_wp2
  (try simp only [Exit.inBlock, Exit.then])
  refine bodyPost_ret (v := .tuple #[.agg #[.int .i64 0, .int .i64 0], .bool false]) ?_ rfl ⟨rfl, ?_⟩
  · rw [results_cell_tmp rfl]
    go_simp
  · exact (Below.refl _ _).alloc (Nat.le_refl _) _

theorem fitV_at {l : List (Nat × Nat)} {size «from» : Int} {r : Nat × Nat} (hs : 1 ≤ size) (h : l.find? (roomAt size «from») = some r) : fitV l size «from» = some (max (r.1 : Int) «from») := by
  unfold fitV; rw [if_neg (by omega), h]
theorem fitV_in {l : List (Nat × Nat)} {size «from» : Int} {r : Nat × Nat} (hs : 1 ≤ size) (h0 : l.find? (roomAt size «from») = none) (h : l.find? (roomIn size) = some r) : fitV l size «from» = some (r.1 : Int) := by
  unfold fitV; rw [if_neg (by omega), h0, h]; rfl
theorem fitV_none {l : List (Nat × Nat)} {size «from» : Int} (hs : 1 ≤ size) (h0 : l.find? (roomAt size «from») = none) (h : l.find? (roomIn size) = none) : fitV l size «from» = none := by
  unfold fitV; rw [if_neg (by omega), h0, h]; rfl

set_option maxHeartbeats 4000000 in
theorem rfit_some (s : ByteArray) (hs : s.size ≤ 2000) (n size «from» : Int) (hn : n ≤ 9223372036854775807) (hsz : 1 ≤ size) (hf : «from» ≤ 9223372036854775807) (w : World) :
    Calls Try.prog 23 #[.string s, .int .i64 n, .int .i64 size, .int .i64 «from»] w fun e w' => e = .returned (fitRes (fitV (runs (bitAt s) (firstV s n)) size «from») size) ∧ Below w.heap.size w w' := by
  have hN := firstV_le s n
  have F := Lib.hid (rfree_any s hs n hn (w.alloc (.cells #[.int .i64 0, .int .i64 0] 31)))
  have hlen := runs_len (bitAt s) (firstV s n)
  have hmem := runs_mem (bitAt s) (firstV s n)
  have E1 := Lib.hid (fun r (h : (runs (bitAt s) (firstV s n)).find? (roomAt size «from») = some r) => fitV_at hsz h)
  have E2 := Lib.hid (fun (h0 : (runs (bitAt s) (firstV s n)).find? (roomAt size «from») = none) r (h : (runs (bitAt s) (firstV s n)).find? (roomIn size) = some r) => fitV_in hsz h0 h)
  have E3 := Lib.hid (fun (h0 : (runs (bitAt s) (firstV s n)).find? (roomAt size «from») = none) (h : (runs (bitAt s) (firstV s n)).find? (roomIn size) = none) => fitV_none hsz h0 h)
  generalize fitV (runs (bitAt s) (firstV s n)) size «from» = o at *
  generalize runs (bitAt s) (firstV s n) = l at *
  have hmem2 : ∀ r ∈ l, r.1 + r.2 ≤ 16000 ∧ 1 ≤ r.2 := fun r hr => by have := hmem r hr; omega
  have HM := Lib.hid hmem2
  clear hmem hmem2
  go_enter Try.func23, Try.ntmps23
  go_wp2_with fail
  refine F.out.mono ?_; rintro e w1 ⟨v, rfl, hown, hb1⟩
  have hbe : Below w.heap.size w w1 := ((Below.refl _ _).alloc (Nat.le_refl _) _).trans (hb1.mono (by show _ ≤ (w.heap.push _).size; simp))
  have hres : w1.heap[w.heap.size]? = some (.cells #[.int .i64 0, .int .i64 0] 31 (0, 0)) :=
    (hb1.block _ (by show _ < (w.heap.push _).size; simp)).trans (heap_alloc_new _ _)
  obtain ⟨ad, cap, rfl, had⟩ := shape_of hown
  have hown : w1.ownsRow (w.heap.size + 1) 31 2 (.slice ad l.length cap) l.length (cellsR l) := by
    have e : (w.alloc (.cells #[.int .i64 0, .int .i64 0] 31)).heap.size = w.heap.size + 1 := by show (w.heap.push _).size = _; simp
    rw [← e]; exact hown
  have hl16 : l.length ≤ 16000 := by omega
  clear F hb1
  go_wp2
  go_loopw [11] (fun p wr => ∃ k : Nat, p = .int .i64 k ∧ k ≤ l.length ∧ Hid ((l.take k).find? (roomAt size «from») = none) ∧ Below w1.heap.size w1 wr) (fun p _ => l.length - (intOf p).toNat)
  case atStart => exact ⟨0, rfl, Nat.zero_le _, Lib.hid rfl, Below.refl _ _⟩
  case round =>
    obtain ⟨k, rfl, hk, HK, hbr⟩ := hrel
    by_cases hlt : k < l.length
    · obtain ⟨g, rfl, hg⟩ := had (by omega)
      have hown2 := row_kept hown hbr
      obtain ⟨q1, q2⟩ := run_cells hown2 k hlt
      obtain ⟨hac, hc1⟩ := HM.out l[k] (List.getElem_mem _)
      have HP := Lib.hid (take_next hlt)
      have HF : Hid (roomAt size «from» (l[k].1, l[k].2) = false → (l.take (k + 1)).find? (roomAt size «from») = none) := Lib.hid fun h => find_next hlt HK.out h
      have hres2 := (hbr.block _ (lt_of_block hres)).trans hres
      obtain ⟨z1, z2, z3, z4⟩ := cell_two hres2
      generalize l[k].1 = a at *
      generalize l[k].2 = c at *
      have d1 : ∀ q, (wr.drewN q).cell? ⟨g, k * 2, none⟩ = some (.int .i64 (a : Int)) := fun _ => q1
      have d2 : ∀ q, (wr.drewN q).cell? ⟨g, k * 2 + 1, none⟩ = some (.int .i64 (c : Int)) := fun _ => q2
      have y1 : ∀ q, (wr.drewN q).cell? ⟨w.heap.size, 0, none⟩ = some (.int .i64 0) := fun _ => z1
      have y2 : ∀ q, (wr.drewN q).cell? ⟨w.heap.size, 1, none⟩ = some (.int .i64 0) := fun _ => z2
      have y3 : ∀ q, (wr.drewN q).frozen? ⟨w.heap.size, 0, none⟩ = false := fun _ => z3
      have y4 : ∀ q, (wr.drewN q).frozen? ⟨w.heap.size, 1, none⟩ = false := fun _ => z4
      obtain ⟨m, hm⟩ : ∃ m, max (a : Int) «from» = m := ⟨_, rfl⟩
      have HRM := Lib.hid (roomAt_is size «from» a c m hm)
      have HMX := Lib.hid hm
      clear had hown2 hown hres2 hres
      rcases (show ((a : Int) < «from» ∧ m = «from») ∨ («from» ≤ (a : Int) ∧ m = a) by omega) with ⟨g1, rfl⟩ | ⟨g1, rfl⟩
      · clear hm
        by_cases t1 : m < (a : Int) + (c : Int)
        · by_cases t2 : size ≤ (a : Int) + (c : Int) - m
          · have HE : Hid (o = some (m : Int)) := by
              show _ = _
              rw [E1.out _ (find_prefix HP.out HK.out (HRM.out true (decide_eq_true t2)))]
              exact congrArg some HMX.out
            go_wp2
            go_quiet (fail)
            go_wp2
            (try simp only [Exit.inBlock, Exit.then])
            refine bodyPost_ret (v := fitRes (some (m : Int)) size) ?_ rfl ⟨by rw [HE.out], ?_⟩
            · rw [results_cell_tmp rfl]
              unfold fitRes fitLen
              go_simp
            · exact ((below_drewN (hbe.trans (hbr.mono hbe.size)) _).setCell (Nat.le_refl _) _).setCell (Nat.le_refl _) _
          · have HN := Lib.hid (HF.out (HRM.out false (decide_eq_false t2)))
            have t3 : (a : Int) + (c : Int) - m < size := by omega
            clear t2
            go_wp2
            go_quiet (fail)
            go_wp2
            exact ⟨⟨k + 1, by go_num, by omega, HN, below_drewN hbr _⟩, by simp [intOf]; omega⟩
        · have HN := Lib.hid (HF.out (HRM.out false (decide_eq_false (by omega))))
          have t3 : decide (m < (a : Int) + (c : Int)) = false := decide_eq_false t1
          clear t1
          go_wp2
          go_quiet (fail)
          go_wp2
          exact ⟨⟨k + 1, by go_num, by omega, HN, below_drewN hbr _⟩, by simp [intOf]; omega⟩
      · clear hm
        by_cases t1 : (a : Int) < (a : Int) + (c : Int)
        · by_cases t2 : size ≤ (a : Int) + (c : Int) - (a : Int)
          · have HE : Hid (o = some ((a : Int) : Int)) := by
              show _ = _
              rw [E1.out _ (find_prefix HP.out HK.out (HRM.out true (decide_eq_true t2)))]
              exact congrArg some HMX.out
            go_wp2
            go_quiet (fail)
            go_wp2
            (try simp only [Exit.inBlock, Exit.then])
            refine bodyPost_ret (v := fitRes (some ((a : Int) : Int)) size) ?_ rfl ⟨by rw [HE.out], ?_⟩
            · rw [results_cell_tmp rfl]
              unfold fitRes fitLen
              go_simp
            · exact ((below_drewN (hbe.trans (hbr.mono hbe.size)) _).setCell (Nat.le_refl _) _).setCell (Nat.le_refl _) _
          · have HN := Lib.hid (HF.out (HRM.out false (decide_eq_false t2)))
            have t3 : (a : Int) + (c : Int) - (a : Int) < size := by omega
            clear t2
            go_wp2
            go_quiet (fail)
            go_wp2
            exact ⟨⟨k + 1, by go_num, by omega, HN, below_drewN hbr _⟩, by simp [intOf]; omega⟩
        · exfalso; omega
    · obtain rfl : k = l.length := by omega
      have HK2 : Hid (l.find? (roomAt size «from») = none) := by
        have := HK.out
        rw [List.take_length] at this; exact this
      clear HK
      go_wp2
      go_loopw [13] (fun p wq => ∃ k : Nat, p = .int .i64 k ∧ k ≤ l.length ∧ Hid ((l.take k).find? (roomIn size) = none) ∧ wq = wr) (fun p _ => l.length - (intOf p).toNat)
      case atStart => exact ⟨0, rfl, Nat.zero_le _, Lib.hid rfl, rfl⟩
      case round =>
        obtain ⟨k, rfl, hk, HK, rfl⟩ := hrel
        have hres2 := (hbr.block _ (lt_of_block hres)).trans hres
        obtain ⟨z1, z2, z3, z4⟩ := cell_two hres2
        by_cases hlt : k < l.length
        · obtain ⟨g, rfl, hg⟩ := had (by omega)
          have hown2 := row_kept hown hbr
          obtain ⟨q1, q2⟩ := run_cells hown2 k hlt
          obtain ⟨hac, hc1⟩ := HM.out l[k] (List.getElem_mem _)
          have HP := Lib.hid (take_next hlt)
          have HF : Hid (roomIn size (l[k].1, l[k].2) = false → (l.take (k + 1)).find? (roomIn size) = none) := Lib.hid fun h => find_next hlt HK.out h
          generalize l[k].1 = a at *
          generalize l[k].2 = c at *
          clear had hown2 hown hres2 hres
          by_cases t2 : size ≤ (c : Int)
          · have HE : Hid (o = some (a : Int)) := Lib.hid (E2.out HK2.out _ (find_prefix HP.out HK.out (decide_eq_true t2)))
            go_wp2
            (try simp only [Exit.inBlock, Exit.then])
            refine bodyPost_ret (v := fitRes (some (a : Int)) size) ?_ rfl ⟨by rw [HE.out], ?_⟩
            · rw [results_cell_tmp rfl]
              unfold fitRes fitLen
              go_simp
            · exact ((hbe.trans (hbr.mono hbe.size)).setCell (Nat.le_refl _) _).setCell (Nat.le_refl _) _
          · have HN := Lib.hid (HF.out (decide_eq_false t2))
            have t3 : (c : Int) < size := by omega
            clear t2
            go_wp2
            exact ⟨⟨k + 1, by go_num, by omega, HN, trivial⟩, by simp [intOf]; omega⟩
        · obtain rfl : k = l.length := by omega
          have HE : Hid (o = none) := by
            have h := HK.out
            rw [List.take_length] at h
            exact Lib.hid (E3.out HK2.out h)
          clear had hown hres2 hres
          go_wp2
          (try simp only [Exit.inBlock, Exit.then])
          refine bodyPost_ret (v := fitRes none size) ?_ rfl ⟨by rw [HE.out], ?_⟩
          · rw [results_cell_tmp rfl]
            unfold fitRes fitLen
            go_simp
          · exact ((hbe.trans (hbr.mono hbe.size)).setCell (Nat.le_refl _) _).setCell (Nat.le_refl _) _

theorem rfit_any (s : ByteArray) (hs : s.size ≤ 2000) (n size «from» : Int) (hn : n ≤ 9223372036854775807) (hf : «from» ≤ 9223372036854775807) (w : World) :
    Calls Try.prog 23 #[.string s, .int .i64 n, .int .i64 size, .int .i64 «from»] w fun e w' => e = .returned (fitRes (fitV (runs (bitAt s) (firstV s n)) size «from») size) ∧ Below w.heap.size w w' := by
  by_cases h : size < 1
  · have e : fitV (runs (bitAt s) (firstV s n)) size «from» = none := by unfold fitV; rw [if_pos h]
    rw [e]; exact rfit_zero s n size «from» h w
  · exact rfit_some s hs n size «from» hn (by omega) hf w

set_option maxHeartbeats 1000000 in
theorem rffirst_any (s : ByteArray) (hs : s.size ≤ 2000) (n «from» : Int) (hn : n ≤ 9223372036854775807) (hf : «from» ≤ 9223372036854775807) (w : World) :
    Calls Try.prog 21 #[.string s, .int .i64 n, .int .i64 «from»] w fun e w' => e = .returned (.tuple #[.int .i64 ((fitV (runs (bitAt s) (firstV s n)) 1 «from»).getD 0), .bool (fitV (runs (bitAt s) (firstV s n)) 1 «from»).isSome]) ∧ Below w.heap.size w w' := by
  have F := Lib.hid (rfit_any s hs n 1 «from» hn hf)
  generalize fitV (runs (bitAt s) (firstV s n)) 1 «from» = o at *
  unfold fitRes at F
  go_enter Try.func21, Try.ntmps21
  go_wp2_with fail
  refine (F.out _).mono ?_; rintro e w2 ⟨rfl, hb⟩
  go_wp2
  go_ret2
  exact ⟨rfl, hb.alloc hb.size _⟩

theorem run_held : Try.prog.stoodInHeld 31 = false := by kernel_rfl
theorem run_eqg : Try.prog.eqGuardType Try.prog.depth 31 = false := by kernel_rfl
theorem same_upto {l m : List (Nat × Nat)} (h : l.length = m.length) (he : ∀ j < l.length, l[j]? = m[j]?) : l = m := by
  apply List.ext_getElem?
  intro j
  by_cases hj : j < l.length
  · exact he j hj
  · rw [List.getElem?_eq_none (by omega), List.getElem?_eq_none (by omega)]

set_option maxHeartbeats 4000000 in
theorem same_any (Ba Bb : Nat) (va vb : Value) (l m : List (Nat × Nat)) (hl : l.length ≤ 16000) (hm : m.length ≤ 16000) (w : World) (ha : RunsAt Ba va l w) (hb : RunsAt Bb vb m w) :
    Calls Try.prog 19 #[va, vb] w fun e w' => e = .returned (.bool (decide (l = m))) ∧ Below w.heap.size w w' := by
  obtain ⟨ada, capa, rfl, hada⟩ := shape_of ha
  obtain ⟨adb, capb, rfl, hadb⟩ := shape_of hb
  by_cases hlen : l.length = m.length
  · have ht : ((l.length : Int) != (m.length : Int)) = false := by rw [hlen]; simp
    go_enter Try.func19, Try.ntmps19
    go_wp2
    go_loopw [5] (fun p wr => ∃ k : Nat, p = .int .i64 k ∧ k ≤ l.length ∧ Hid (∀ j < k, l[j]? = m[j]?) ∧ Below w.heap.size w wr) (fun p _ => l.length - (intOf p).toNat)
    case atStart => exact ⟨0, rfl, Nat.zero_le _, Lib.hid (fun j h => by omega), Below.refl _ _⟩
    case round =>
      obtain ⟨k, rfl, hk, HK, hbr⟩ := hrel
      by_cases hlt : k < l.length
      · obtain ⟨ga, rfl, _⟩ := hada (by omega)
        obtain ⟨gb, rfl, _⟩ := hadb (by omega)
        have hlt2 : k < m.length := by omega
        obtain ⟨q1, q2⟩ := run_cells (row_kept ha hbr) k hlt
        obtain ⟨q3, q4⟩ := run_cells (row_kept hb hbr) k hlt2
        have HE : Hid (l[k].1 = m[k].1 → l[k].2 = m[k].2 → ∀ j < k + 1, l[j]? = m[j]?) := Lib.hid fun e1 e2 j hj => by
          by_cases e : j = k
          · subst e
            rw [List.getElem?_eq_getElem hlt, List.getElem?_eq_getElem hlt2]
            exact congrArg some (Prod.ext e1 e2)
          · exact HK.out j (by omega)
        have HD : Hid (¬ (l[k].1 = m[k].1 ∧ l[k].2 = m[k].2) → decide (l = m) = false) := Lib.hid fun h => by
          rw [decide_eq_false_iff_not]; rintro rfl; exact h ⟨rfl, rfl⟩
        generalize l[k].1 = a at *
        generalize l[k].2 = c at *
        generalize m[k].1 = a' at *
        generalize m[k].2 = c' at *
        have d1 : ∀ q, (wr.drewN q).cell? ⟨ga, k * 2, none⟩ = some (.int .i64 (a : Int)) := fun _ => q1
        have d2 : ∀ q, (wr.drewN q).cell? ⟨ga, k * 2 + 1, none⟩ = some (.int .i64 (c : Int)) := fun _ => q2
        have d3 : ∀ q, (wr.drewN q).cell? ⟨gb, k * 2, none⟩ = some (.int .i64 (a' : Int)) := fun _ => q3
        have d4 : ∀ q, (wr.drewN q).cell? ⟨gb, k * 2 + 1, none⟩ = some (.int .i64 (c' : Int)) := fun _ => q4
        clear ha hb hada hadb
        have rh := run_held
        by_cases h1 : a = a'
        · by_cases h2 : c = c'
          · have HN := Lib.hid (HE.out h1 h2)
            go_wp2
            go_quiet (fail)
            go_wp2
            exact ⟨⟨k + 1, by go_num, by omega, HN, below_drewN hbr _⟩, by simp [intOf]; omega⟩
          · have HN := Lib.hid (HD.out (fun h => h2 h.2))
            go_wp2
            go_quiet (fail)
            go_wp2
            go_ret
            exact ⟨ret_bool (by rw [HN.out]), below_drewN hbr _⟩
        · have HN := Lib.hid (HD.out (fun h => h1 h.1))
          go_wp2
          go_quiet (fail)
          go_wp2
          go_ret
          exact ⟨ret_bool (by rw [HN.out]), below_drewN hbr _⟩
      · obtain rfl : k = l.length := by omega
        have HN : Hid (decide (l = m) = true) := Lib.hid (decide_eq_true (same_upto hlen HK.out))
        clear ha hb hada hadb
        go_wp2
        go_ret
        exact ⟨ret_bool (by rw [HN.out]), hbr⟩
  · have ht : ((l.length : Int) != (m.length : Int)) = true := by rw [bne_iff_ne]; omega
    have hd : decide (l = m) = false := by rw [decide_eq_false_iff_not]; rintro rfl; exact hlen rfl
    rw [hd]
    clear hlen
    go_enter Try.func19, Try.ntmps19
    go_wp2
    go_ret
    exact ⟨rfl, Below.refl _ _⟩

end Go.Proofs.Ytddbceecamenhaa
