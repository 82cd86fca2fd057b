/- The document's Normal, Union, Minus, Meet, Complement. -/
import Derived.Test.YtgcbfiecgiijkaaRPut
namespace Go.Proofs.Ytgcbfiecgiijkaa
set_option linter.unusedVariables false
open Go.RowKit Go.Shelf

theorem norm_step (l : List (Int × Int)) (k : Nat) (h : k < l.length) : normR (l.take (k + 1)) = if okR l[k] then putR (normR (l.take k)) l[k] else normR (l.take k) := by
  rw [List.take_succ_eq_append_getElem h]; unfold normR; rw [List.foldl_append]; rfl
theorem minus_step (a l : List (Int × Int)) (k : Nat) (h : k < l.length) : minusR a (l.take (k + 1)) = if okR l[k] then cutR (minusR a (l.take k)) l[k] else minusR a (l.take k) := by
  rw [List.take_succ_eq_append_getElem h]; unfold minusR; rw [List.foldl_append]; rfl

theorem minus_len' (a b : List (Int × Int)) : (minusR a b).length ≤ a.length + b.length + 1 := by
  rw [← minus_meet, ← meet_go]
  have h1 := meet_go_len _ (Nat.le_refl ((normR a).length + (normR (complR b 9223372036854775807)).length))
  have h2 := compl_len b (Int.le_refl 9223372036854775807)
  have := norm_len a; have := norm_len (complR b 9223372036854775807); omega
set_option maxRecDepth 100000 in
set_option maxHeartbeats 4000000 in
theorem rnorm_any (l : List (Int × Int)) (hf : fitR l) (hl : l.length ≤ 1000) (v : Value) (w : World) (hv : RunsIn v l w) :
    Calls Try.prog 41 #[v] w fun e w' => ∃ v', e = .returned v' ∧ RunsAt w.heap.size v' (normR l) w' ∧ Below w.heap.size w w' := by
  obtain ⟨ad, cap, rfl, h1, h2, h3, -⟩ := id hv
  have h2 : cap ≤ 9223372036854775807 := h2
  clear hv
  go_enter Try.func41, Try.ntmps41
  go_wp2
  go_loopw [3, 4] (fun vo p wr => ∃ (k : Nat) (out : List (Int × Int)), p = .int .i64 k ∧ k ≤ l.length ∧ Hid (out = normR (l.take k)) ∧ RunsAt w.heap.size vo out wr ∧ Below w.heap.size w wr) (fun _ p _ => l.length - (intOf p).toNat)
  case atStart => exact ⟨0, [], rfl, Nat.zero_le _, Lib.hid rfl, World.ownsRow_nil _ _ _ _, Below.refl _ _⟩
  case round =>
    obtain ⟨k, out, rfl, hk, HO, hown, hb⟩ := hrel
    by_cases hlt : k < l.length
    · obtain ⟨g, o, rfl, hg, hc⟩ := h3 (by omega)
      obtain ⟨c1, c2⟩ := hc k hlt
      have c1 := (hb.cell (p := ⟨g, o + k * 2, none⟩) hg).trans c1
      have c2 := (hb.cell (p := ⟨g, o + k * 2 + 1, none⟩) hg).trans c2
      have hgr : g < wr.heap.size := Nat.lt_of_lt_of_le hg hb.size
      have hfk := fit_at hf k hlt
      have hno : Norm (-1) out := by rw [HO.out]; exact norm_norm _
      have hlo : out.length ≤ 1000 := by rw [HO.out]; have := norm_len (l.take k); rw [List.length_take] at this; omega
      have HS : Hid (normR (l.take (k + 1)) = if okR (l[k].1, l[k].2) then putR out (l[k].1, l[k].2) else out) := Lib.hid (by rw [norm_step l k hlt, HO.out])
      have V := may_below l[k].1 l[k].2 hfk.1 hfk.2
      by_cases hok : okR (l[k].1, l[k].2)
      · rw [decide_eq_true hok] at V
        have P := fun v W h => put_any out hno hlo l[k].1 l[k].2 hok v W h
        have HS2 : Hid (putR out (l[k].1, l[k].2) = normR (l.take (k + 1))) := Lib.hid (by have := HS.out; rw [if_pos hok] at this; exact this.symm)
        generalize l[k].1 = a at *
        generalize l[k].2 = b at *
        have V := Lib.hid V
        clear hc h3 HS hok
        go_wp2_with fail
        refine (V.out _).mono ?_; rintro e w1 ⟨rfl, b1⟩
        have c1 := (b1.cell (p := ⟨g, o + k * 2, none⟩) hgr).trans c1
        have c2 := (b1.cell (p := ⟨g, o + k * 2 + 1, none⟩) hgr).trans c2
        have hown1 := row_kept hown b1
        have hb1 := bnext hb b1
        have P1 := Lib.hid (P _ _ (runsAt_in hown1))
        clear b1 V P hown hb
        go_wp2_with fail
        refine P1.out.mono ?_; rintro e w2 ⟨v2, rfl, r2, b2⟩
        have r3 := row_down hb1.size r2
        have hb2 := bnext hb1 b2
        clear r2 b2 hb1 hown1 P1 c1 c2
        go_wp2
        exact ⟨⟨k + 1, _, by go_num, by omega, HS2, r3, hb2⟩, by simp [intOf]; omega⟩
      · rw [decide_eq_false hok] at V
        have HS2 : Hid (out = normR (l.take (k + 1))) := Lib.hid (by have := HS.out; rw [if_neg hok] at this; exact this.symm)
        generalize l[k].1 = a at *
        generalize l[k].2 = b at *
        have V := Lib.hid V
        clear hc h3 HS hok
        go_wp2_with fail
        refine (V.out _).mono ?_; rintro e w1 ⟨rfl, b1⟩
        have hown1 := row_kept hown b1
        have hb1 := bnext hb b1
        clear b1 V hown hb c1 c2
        go_wp2
        exact ⟨⟨k + 1, out, by go_num, by omega, HS2, hown1, hb1⟩, by simp [intOf]; omega⟩
    · obtain rfl : k = l.length := by omega
      have HE : out = normR l := by have := HO.out; rwa [List.take_length] at this
      rw [HE] at hown
      clear h3 HO HE
      go_wp2
      go_ret
      exact ⟨_, rfl, hown, hb⟩

set_option maxRecDepth 100000 in
set_option maxHeartbeats 4000000 in
theorem rminus_any (a l : List (Int × Int)) (hfa : fitR a) (hf : fitR l) (hl : a.length + l.length ≤ 900) (va v : Value) (w : World) (ha : RunsIn va a w) (hv : RunsIn v l w) :
    Calls Try.prog 63 #[va, v] w fun e w' => ∃ v', e = .returned v' ∧ RunsAt w.heap.size v' (minusR a l) w' ∧ Below w.heap.size w w' := by
  obtain ⟨ad, cap, rfl, h1, h2, h3, -⟩ := id hv
  have h2 : cap ≤ 9223372036854775807 := h2
  have N := Lib.hid (rnorm_any a hfa (by omega) va w ha)
  clear hv ha
  go_enter Try.func63, Try.ntmps63
  go_wp2_with fail
  refine N.out.mono ?_; rintro e w1 ⟨vn, rfl, rn, hb1⟩
  clear N
  go_wp2
  go_loopw [5, 6] (fun vo p wr => ∃ (k : Nat) (out : List (Int × Int)), p = .int .i64 k ∧ k ≤ l.length ∧ Hid (out = minusR a (l.take k)) ∧ RunsAt w.heap.size vo out wr ∧ Below w.heap.size w wr) (fun _ p _ => l.length - (intOf p).toNat)
  case atStart => exact ⟨0, _, rfl, Nat.zero_le _, Lib.hid rfl, rn, hb1⟩
  case round =>
    obtain ⟨k, out, rfl, hk, HO, hown, hb⟩ := hrel
    clear rn hb1
    by_cases hlt : k < l.length
    · obtain ⟨g, o, rfl, hg, hc⟩ := h3 (by omega)
      obtain ⟨c1, c2⟩ := hc k hlt
      have c1 := (hb.cell (p := ⟨g, o + k * 2, none⟩) hg).trans c1
      have c2 := (hb.cell (p := ⟨g, o + k * 2 + 1, none⟩) hg).trans c2
      have hgr : g < wr.heap.size := Nat.lt_of_lt_of_le hg hb.size
      have hfk := fit_at hf k hlt
      have hno : Norm (-1) out := by rw [HO.out]; exact minus_norm _ _
      have hlo : out.length ≤ 1000 := by rw [HO.out]; have := minus_len' a (l.take k); rw [List.length_take] at this; omega
      have HS : Hid (minusR a (l.take (k + 1)) = if okR (l[k].1, l[k].2) then cutR out (l[k].1, l[k].2) else out) := Lib.hid (by rw [minus_step a l k hlt, HO.out])
      have V := may_below l[k].1 l[k].2 hfk.1 hfk.2
      by_cases hok : okR (l[k].1, l[k].2)
      · rw [decide_eq_true hok] at V
        have P := fun v W h => cut_any out hno hlo l[k].1 l[k].2 hok v W h
        have HS2 : Hid (cutR out (l[k].1, l[k].2) = minusR a (l.take (k + 1))) := Lib.hid (by have := HS.out; rw [if_pos hok] at this; exact this.symm)
        generalize l[k].1 = a1 at *
        generalize l[k].2 = b1 at *
        have V := Lib.hid V
        clear hc h3 HS hok
        go_wp2_with fail
        refine (V.out _).mono ?_; rintro e w2 ⟨rfl, b1⟩
        have c1 := (b1.cell (p := ⟨g, o + k * 2, none⟩) hgr).trans c1
        have c2 := (b1.cell (p := ⟨g, o + k * 2 + 1, none⟩) hgr).trans c2
        have hown1 := row_kept hown b1
        have hb1 := bnext hb b1
        have P1 := Lib.hid (P _ _ (runsAt_in hown1))
        clear b1 V P hown hb
        go_wp2_with fail
        refine P1.out.mono ?_; rintro e w3 ⟨v2, rfl, r2, b2⟩
        have r3 := row_down hb1.size r2
        have hb2 := bnext hb1 b2
        clear r2 b2 hb1 hown1 P1 c1 c2
        go_wp2
        exact ⟨⟨k + 1, _, by go_num, by omega, HS2, r3, hb2⟩, by simp [intOf]; omega⟩
      · rw [decide_eq_false hok] at V
        have HS2 : Hid (out = minusR a (l.take (k + 1))) := Lib.hid (by have := HS.out; rw [if_neg hok] at this; exact this.symm)
        generalize l[k].1 = a1 at *
        generalize l[k].2 = b1 at *
        have V := Lib.hid V
        clear hc h3 HS hok
        go_wp2_with fail
        refine (V.out _).mono ?_; rintro e w2 ⟨rfl, b1⟩
        have hown1 := row_kept hown b1
        have hb1 := bnext hb b1
        clear b1 V hown hb c1 c2
        go_wp2
        exact ⟨⟨k + 1, out, by go_num, by omega, HS2, hown1, hb1⟩, by simp [intOf]; omega⟩
    · obtain rfl : k = l.length := by omega
      have HE : out = minusR a l := by have := HO.out; rwa [List.take_length] at this
      rw [HE] at hown
      clear h3 HO HE
      go_wp2
      go_ret
      exact ⟨_, rfl, hown, hb⟩

end Go.Proofs.Ytgcbfiecgiijkaa
