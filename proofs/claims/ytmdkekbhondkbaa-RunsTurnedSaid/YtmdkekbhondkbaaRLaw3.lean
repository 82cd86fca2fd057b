/- The walk of RunsTurned. -/
import Derived.Test.YtmdkekbhondkbaaRLaw2
namespace Go.Proofs.Ytmdkekbhondkbaa
set_option linter.unusedVariables false
open Go.RowKit Go.Shelf

theorem drop_prev {l : List (Int × Int)} {m : Nat} (h : m < l.length) : (l.drop m).reverse = (l.drop (m + 1)).reverse ++ [(l[m].1, l[m].2)] := by
  rw [List.drop_eq_getElem_cons h, List.reverse_cons]
theorem turned_mem {l : List (Int × Int)} {k : Nat} (h : k < l.length) (r : Int × Int) : r ∈ (l.drop k).reverse ++ l.take k ++ [(l[k].1, l[k].2)] ↔ r ∈ l := by
  have e : l.take k ++ l.drop k = l := List.take_append_drop k l
  simp only [List.mem_append, List.mem_reverse, List.mem_singleton]
  constructor
  · rintro ((h1 | h1) | h1)
    · exact List.mem_of_mem_drop h1
    · exact List.mem_of_mem_take h1
    · rw [h1]; exact List.getElem_mem h
  · intro h1
    rw [← e, List.mem_append] at h1
    exact .inl (h1.elim .inr .inl)
theorem norm_turned {l t : List (Int × Int)} (h : ∀ r, r ∈ t ↔ r ∈ l) : normR t = normR l := norm_one (norm_norm _) (norm_norm _) fun i => by
  rw [norm_elem, norm_elem]; exact perm_elem h i
theorem compl_turned {l t : List (Int × Int)} (h : ∀ r, r ∈ t ↔ r ∈ l) {n : Int} (hn : n ≤ 9223372036854775807) : complR t n = complR l n := norm_one (compl_norm _ _) (compl_norm _ _) fun i => by
  rw [compl_elem _ hn, compl_elem _ hn, perm_elem h i]
theorem runsIn_take {ad : Option Addr} {l : List (Int × Int)} {cap k : Nat} {w : World} (h : RunsIn (.slice ad l.length cap) l w) (hk : k < l.length) : RunsIn (.slice ad k cap) (l.take k) w := by
  obtain ⟨ad', cap', e, h1, h2, h3, h4⟩ := h
  simp only [Value.slice.injEq] at e
  obtain ⟨rfl, _, rfl⟩ := e
  refine ⟨ad, cap, by rw [List.length_take]; congr 1; omega, by rw [List.length_take]; omega, h2, fun hp => ?_, h4⟩
  obtain ⟨g, o, e, hg, hc⟩ := h3 (by omega)
  refine ⟨g, o, e, hg, fun j hj => ?_⟩
  rw [List.length_take] at hj
  have := hc j (by omega)
  rw [List.getElem_take]; exact this

theorem tmod_bounds (k n : Int) (hn : 0 < n) : -n < k.tmod n ∧ k.tmod n < n := by
  rcases Int.le_total 0 k with h | h
  · rw [Int.tmod_eq_emod_of_nonneg h]
    have := Int.emod_nonneg k (by omega : n ≠ 0); have := Int.emod_lt_of_pos k hn; omega
  · obtain ⟨m, rfl⟩ : ∃ m, k = -m := ⟨-k, by omega⟩
    rw [Int.neg_tmod, Int.tmod_eq_emod_of_nonneg (by omega)]
    have := Int.emod_nonneg m (by omega : n ≠ 0); have := Int.emod_lt_of_pos m hn; omega

set_option maxHeartbeats 8000000 in
theorem turned_walk (l : List (Int × Int)) (hf : fitR l) (v : Value) (k : Int) (hk : I64 k) (w : World) (hv : RunsIn v l w) :
    Calls Try.prog 10 #[v, .int .i64 k] w fun e w' => e = .returned (.bool true) ∧ Below w.heap.size w w' := by
  obtain ⟨ad, cap, rfl, h1, h2, h3, -⟩ := id hv
  have h2 : cap ≤ 9223372036854775807 := h2
  have AL := Lib.hid alive_any
  have hb := Below.refl w.heap.size w
  by_cases hl : l.length ≤ 100
  · by_cases hz : l.length = 0
    · have dz : ((l.length : Int) == 0) = true := by rw [hz]; rfl
      clear h3 hv hf hz
      go_enter Try.func10, Try.ntmps10
      go_wp2_with fail
      refine (AL.out w).mono ?_; rintro e w1 ⟨rfl, b⟩
      have hb := bnext hb b
      clear b AL
      go_wp2
      go_ret
      exact ⟨rfl, hb⟩
    · have dz : ((l.length : Int) == 0) = false := by rw [beq_eq_false_iff_ne]; omega
      have hpos : 0 < l.length := by omega
      obtain ⟨g, o, rfl, hg, hc⟩ := h3 hpos
      obtain ⟨hk1, hk2⟩ := hk
      obtain ⟨t1, t2⟩ := tmod_bounds k (l.length : Int) (by omega)
      clear h3 hb
      by_cases hneg : k.tmod (l.length : Int) < 0
      · obtain ⟨kk, hkk⟩ : ∃ kk : Nat, k.tmod (l.length : Int) + (l.length : Int) = (kk : Int) := ⟨(k.tmod (l.length : Int) + (l.length : Int)).toNat, by omega⟩
        have hkl : kk < l.length := by omega
        have hw : IntKind.i64.wrap (k.tmod (l.length : Int) + (l.length : Int)) = (kk : Int) := by rw [hkk, IntKind.wrap_i64]; omega
        have hw2 : wrap64 (k.tmod (l.length : Int) + (l.length : Int)) = (kk : Int) := by rw [hkk]; unfold wrap64; omega
        clear hkk t1 t2
        go_enter Try.func10, Try.ntmps10
        go_wp2
        clear hw hw2 hneg
        go_loopw [5, 6] (fun vt p wr => ∃ m : Nat, p = .int .i64 ((m : Int) - 1) ∧ kk ≤ m ∧ m ≤ l.length ∧ RunsAt w.heap.size vt (l.drop m).reverse wr ∧ Below w.heap.size w wr) (fun _ p _ => (intOf p + 1).toNat)
        case atStart => exact ⟨l.length, rfl, by omega, Nat.le_refl _, by rw [List.drop_length]; exact World.ownsRow_nil _ _ _ _, Below.refl _ _⟩
        case round =>
          obtain ⟨m, rfl, hkm, hml, hown, hbr⟩ := hrel
          by_cases hlt : kk < m
          · obtain ⟨j, rfl⟩ : ∃ j, m = j + 1 := ⟨m - 1, by omega⟩
            rw [show ((j + 1 : Nat) : Int) - 1 = (j : Int) by omega]
            have hjl : j < l.length := by omega
            obtain ⟨c1, c2⟩ := hc j hjl
            have c1 := (hbr.cell (p := ⟨g, o + j * 2, none⟩) hg).trans c1
            have c2 := (hbr.cell (p := ⟨g, o + j * 2 + 1, none⟩) hg).trans c2
            have HT := Lib.hid (drop_prev hjl)
            have hol : (l.drop (j + 1)).reverse.length ≤ 100 := by simp; omega
            generalize (l.drop (j + 1)).reverse = out at *
            generalize l[j].1 = a at *
            generalize l[j].2 = b at *
            have hkj : (kk : Int) ≤ (j : Int) := by omega
            have hsr := hbr.size
            clear hc hv
            go_wp2_with (at_builtin; refine wpList_app rfl _ _ rfl w.heap.size _ out rfl (hown.alloc _) ⟨wr.heap.size, 0, none⟩ 1 1 [(a, b)] rfl rfl (new_cells1 _ _ _) (by omega) (by rw [size_alloc]; omega) ?_)
            intro v' w3 h4 h5
            have hb5 := (balloc' hbr hsr _).trans h5
            clear hown h5 hbr
            go_wp2
            exact ⟨⟨j, rfl, by omega, by omega, by rw [HT.out]; exact h4, hb5⟩, by simp [intOf] <;> omega⟩
          · obtain rfl : m = kk := by omega
            have hA := runsIn_take (runsIn_kept hv hbr) hkl
            obtain ⟨c1, c2⟩ := hc m hkl
            have hol : (l.drop m).reverse.length ≤ 100 := by simp; omega
            have hol2 : (l.take m).length ≤ 100 := by simp; omega
            have hmem := turned_mem hkl
            have hsr := hbr.size
            generalize (l.drop m).reverse = out at *
            generalize l.take m = out2 at *
            generalize l[m].1 = a at *
            generalize l[m].2 = b at *
            clear hc
            go_wp2_with (at_builtin; refine wpList_appv rfl _ _ rfl w.heap.size _ out rfl hown _ out2 rfl hA (by omega) hsr ?_)
            intro v' w3 h4 h5
            have hb5 := hbr.trans h5
            have hs5 := hb5.size
            have c1 := (hb5.cell (p := ⟨g, o + m * 2, none⟩) hg).trans c1
            have c2 := (hb5.cell (p := ⟨g, o + m * 2 + 1, none⟩) hg).trans c2
            clear hown h5 hbr hA
            go_wp2_with (at_builtin; refine wpList_app rfl _ _ rfl w.heap.size _ (out ++ out2) rfl (h4.alloc _) ⟨w3.heap.size, 0, none⟩ 1 1 [(a, b)] rfl rfl (new_cells1 _ _ _) (by simp; omega) (by rw [size_alloc]; omega) ?_)
            intro v4 w4 h6 h7
            have hb := (balloc' hb5 hs5 _).trans h7
            have ht := runsAt_in h6
            try rw [← List.append_assoc] at ht
            have hlt : (out ++ out2 ++ [(a, b)]).length ≤ 1000 := by simp; omega
            clear h4 h6 h7 hb5 c1 c2
            have hv := runsIn_kept hv hb
            have hft : fitR (out ++ out2 ++ [(a, b)]) := fun r hr => hf r ((hmem r).1 hr)
            have N1 := fun W h => norm_any (out ++ out2 ++ [(a, b)]) hft (by omega) v4 W h
            have K1 := fun W h => count_any (out ++ out2 ++ [(a, b)]) hft (by omega) v4 W h
            have P1 := fun W h => compl_any (out ++ out2 ++ [(a, b)]) hft (by omega) 1000 ⟨by omega, by omega⟩ v4 W h
            rw [norm_turned hmem] at N1 K1
            rw [compl_turned hmem (by omega)] at P1
            generalize out ++ out2 ++ [(a, b)] = t at *
            have dn : (sumR (normR l) == sumR (normR l)) = true := by simp
            have N1 := Lib.hid N1
            have K1 := Lib.hid K1
            have P1 := Lib.hid P1
            clear hmem hft
            go_wp2_with fail
            refine (N1.out _ ht).mono ?_; rintro e w5 ⟨v5, rfl, r5, b⟩
            have ht := runsIn_kept ht b
            have hv := runsIn_kept hv b
            have h5 := runsAt_in r5
            have hb := bnext hb b
            clear b r5 N1
            go_wp2_with fail
            refine (norm_any l hf (by omega) _ _ hv).mono ?_; rintro e w6 ⟨v6, rfl, r6, b⟩
            have ht := runsIn_kept ht b
            have hv := runsIn_kept hv b
            have h5 := runsIn_kept h5 b
            have h6 := runsAt_in r6
            have hb := bnext hb b
            clear b r6
            go_wp2_with fail
            refine (same_yes _ _ _ _ h5 h6).mono ?_; rintro e w7 ⟨rfl, b⟩
            have ht := runsIn_kept ht b
            have hv := runsIn_kept hv b
            have hb := bnext hb b
            clear b h5 h6
            go_wp2_with fail
            refine (K1.out _ ht).mono ?_; rintro e w8 ⟨rfl, b⟩
            have ht := runsIn_kept ht b
            have hv := runsIn_kept hv b
            have hb := bnext hb b
            clear b K1
            go_wp2_with fail
            refine (count_any l hf (by omega) _ _ hv).mono ?_; rintro e w9 ⟨rfl, b⟩
            have ht := runsIn_kept ht b
            have hv := runsIn_kept hv b
            have hb := bnext hb b
            clear b
            go_wp2_with fail
            refine (P1.out _ ht).mono ?_; rintro e w10 ⟨v5, rfl, r5, b⟩
            have ht := runsIn_kept ht b
            have hv := runsIn_kept hv b
            have h5 := runsAt_in r5
            have hb := bnext hb b
            clear b r5 P1
            go_wp2_with fail
            refine (compl_any l hf (by omega) 1000 ⟨by omega, by omega⟩ _ _ hv).mono ?_; rintro e w11 ⟨v6, rfl, r6, b⟩
            have h5 := runsIn_kept h5 b
            have h6 := runsAt_in r6
            have hb := bnext hb b
            clear b r6 ht hv
            go_wp2_with fail
            refine (same_yes _ _ _ _ h5 h6).mono ?_; rintro e w12 ⟨rfl, b⟩
            have hb := bnext hb b
            clear b h5 h6
            go_wp2_with fail
            refine (AL.out _).mono ?_; rintro e w13 ⟨rfl, b⟩
            have hb := bnext hb b
            clear b AL
            go_wp2
            go_ret
            exact ⟨rfl, hb⟩
      · obtain ⟨kk, hkk⟩ : ∃ kk : Nat, k.tmod (l.length : Int) = (kk : Int) := ⟨(k.tmod (l.length : Int)).toNat, by omega⟩
        have hkl : kk < l.length := by omega
        rw [hkk] at t1 t2 hneg
        go_enter Try.func10, Try.ntmps10
        go_wp2
        clear hkk t1 t2 hneg
        go_loopw [5, 6] (fun vt p wr => ∃ m : Nat, p = .int .i64 ((m : Int) - 1) ∧ kk ≤ m ∧ m ≤ l.length ∧ RunsAt w.heap.size vt (l.drop m).reverse wr ∧ Below w.heap.size w wr) (fun _ p _ => (intOf p + 1).toNat)
        case atStart => exact ⟨l.length, rfl, by omega, Nat.le_refl _, by rw [List.drop_length]; exact World.ownsRow_nil _ _ _ _, Below.refl _ _⟩
        case round =>
          obtain ⟨m, rfl, hkm, hml, hown, hbr⟩ := hrel
          by_cases hlt : kk < m
          · obtain ⟨j, rfl⟩ : ∃ j, m = j + 1 := ⟨m - 1, by omega⟩
            rw [show ((j + 1 : Nat) : Int) - 1 = (j : Int) by omega]
            have hjl : j < l.length := by omega
            obtain ⟨c1, c2⟩ := hc j hjl
            have c1 := (hbr.cell (p := ⟨g, o + j * 2, none⟩) hg).trans c1
            have c2 := (hbr.cell (p := ⟨g, o + j * 2 + 1, none⟩) hg).trans c2
            have HT := Lib.hid (drop_prev hjl)
            have hol : (l.drop (j + 1)).reverse.length ≤ 100 := by simp; omega
            generalize (l.drop (j + 1)).reverse = out at *
            generalize l[j].1 = a at *
            generalize l[j].2 = b at *
            have hkj : (kk : Int) ≤ (j : Int) := by omega
            have hsr := hbr.size
            clear hc hv
            go_wp2_with (at_builtin; refine wpList_app rfl _ _ rfl w.heap.size _ out rfl (hown.alloc _) ⟨wr.heap.size, 0, none⟩ 1 1 [(a, b)] rfl rfl (new_cells1 _ _ _) (by omega) (by rw [size_alloc]; omega) ?_)
            intro v' w3 h4 h5
            have hb5 := (balloc' hbr hsr _).trans h5
            clear hown h5 hbr
            go_wp2
            exact ⟨⟨j, rfl, by omega, by omega, by rw [HT.out]; exact h4, hb5⟩, by simp [intOf] <;> omega⟩
          · obtain rfl : m = kk := by omega
            have hA := runsIn_take (runsIn_kept hv hbr) hkl
            obtain ⟨c1, c2⟩ := hc m hkl
            have hol : (l.drop m).reverse.length ≤ 100 := by simp; omega
            have hol2 : (l.take m).length ≤ 100 := by simp; omega
            have hmem := turned_mem hkl
            have hsr := hbr.size
            generalize (l.drop m).reverse = out at *
            generalize l.take m = out2 at *
            generalize l[m].1 = a at *
            generalize l[m].2 = b at *
            clear hc
            go_wp2_with (at_builtin; refine wpList_appv rfl _ _ rfl w.heap.size _ out rfl hown _ out2 rfl hA (by omega) hsr ?_)
            intro v' w3 h4 h5
            have hb5 := hbr.trans h5
            have hs5 := hb5.size
            have c1 := (hb5.cell (p := ⟨g, o + m * 2, none⟩) hg).trans c1
            have c2 := (hb5.cell (p := ⟨g, o + m * 2 + 1, none⟩) hg).trans c2
            clear hown h5 hbr hA
            go_wp2_with (at_builtin; refine wpList_app rfl _ _ rfl w.heap.size _ (out ++ out2) rfl (h4.alloc _) ⟨w3.heap.size, 0, none⟩ 1 1 [(a, b)] rfl rfl (new_cells1 _ _ _) (by simp; omega) (by rw [size_alloc]; omega) ?_)
            intro v4 w4 h6 h7
            have hb := (balloc' hb5 hs5 _).trans h7
            have ht := runsAt_in h6
            try rw [← List.append_assoc] at ht
            have hlt : (out ++ out2 ++ [(a, b)]).length ≤ 1000 := by simp; omega
            clear h4 h6 h7 hb5 c1 c2
            have hv := runsIn_kept hv hb
            have hft : fitR (out ++ out2 ++ [(a, b)]) := fun r hr => hf r ((hmem r).1 hr)
            have N1 := fun W h => norm_any (out ++ out2 ++ [(a, b)]) hft (by omega) v4 W h
            have K1 := fun W h => count_any (out ++ out2 ++ [(a, b)]) hft (by omega) v4 W h
            have P1 := fun W h => compl_any (out ++ out2 ++ [(a, b)]) hft (by omega) 1000 ⟨by omega, by omega⟩ v4 W h
            rw [norm_turned hmem] at N1 K1
            rw [compl_turned hmem (by omega)] at P1
            generalize out ++ out2 ++ [(a, b)] = t at *
            have dn : (sumR (normR l) == sumR (normR l)) = true := by simp
            have N1 := Lib.hid N1
            have K1 := Lib.hid K1
            have P1 := Lib.hid P1
            clear hmem hft
            go_wp2_with fail
            refine (N1.out _ ht).mono ?_; rintro e w5 ⟨v5, rfl, r5, b⟩
            have ht := runsIn_kept ht b
            have hv := runsIn_kept hv b
            have h5 := runsAt_in r5
            have hb := bnext hb b
            clear b r5 N1
            go_wp2_with fail
            refine (norm_any l hf (by omega) _ _ hv).mono ?_; rintro e w6 ⟨v6, rfl, r6, b⟩
            have ht := runsIn_kept ht b
            have hv := runsIn_kept hv b
            have h5 := runsIn_kept h5 b
            have h6 := runsAt_in r6
            have hb := bnext hb b
            clear b r6
            go_wp2_with fail
            refine (same_yes _ _ _ _ h5 h6).mono ?_; rintro e w7 ⟨rfl, b⟩
            have ht := runsIn_kept ht b
            have hv := runsIn_kept hv b
            have hb := bnext hb b
            clear b h5 h6
            go_wp2_with fail
            refine (K1.out _ ht).mono ?_; rintro e w8 ⟨rfl, b⟩
            have ht := runsIn_kept ht b
            have hv := runsIn_kept hv b
            have hb := bnext hb b
            clear b K1
            go_wp2_with fail
            refine (count_any l hf (by omega) _ _ hv).mono ?_; rintro e w9 ⟨rfl, b⟩
            have ht := runsIn_kept ht b
            have hv := runsIn_kept hv b
            have hb := bnext hb b
            clear b
            go_wp2_with fail
            refine (P1.out _ ht).mono ?_; rintro e w10 ⟨v5, rfl, r5, b⟩
            have ht := runsIn_kept ht b
            have hv := runsIn_kept hv b
            have h5 := runsAt_in r5
            have hb := bnext hb b
            clear b r5 P1
            go_wp2_with fail
            refine (compl_any l hf (by omega) 1000 ⟨by omega, by omega⟩ _ _ hv).mono ?_; rintro e w11 ⟨v6, rfl, r6, b⟩
            have h5 := runsIn_kept h5 b
            have h6 := runsAt_in r6
            have hb := bnext hb b
            clear b r6 ht hv
            go_wp2_with fail
            refine (same_yes _ _ _ _ h5 h6).mono ?_; rintro e w12 ⟨rfl, b⟩
            have hb := bnext hb b
            clear b h5 h6
            go_wp2_with fail
            refine (AL.out _).mono ?_; rintro e w13 ⟨rfl, b⟩
            have hb := bnext hb b
            clear b AL
            go_wp2
            go_ret
            exact ⟨rfl, hb⟩
  · have hl : 100 < l.length := by omega
    clear h3 hv hf
    go_enter Try.func10, Try.ntmps10
    go_wp2_with fail
    refine (AL.out w).mono ?_; rintro e w1 ⟨rfl, b⟩
    have hb := bnext hb b
    clear b AL
    go_wp2
    go_ret
    exact ⟨rfl, hb⟩
end Go.Proofs.Ytmdkekbhondkbaa
