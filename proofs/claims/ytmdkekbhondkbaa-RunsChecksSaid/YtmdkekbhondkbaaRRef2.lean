/- The document's Normal, Union, Minus, Meet, Complement. -/
import Derived.Test.YtmdkekbhondkbaaRPut
namespace Go.Proofs.Ytmdkekbhondkbaa
set_option linter.unusedVariables false
open Go.RowKit Go.Shelf

theorem norm_step (l : List (Int × Int)) (k : Nat) (h : k < l.length) : normR (l.take (k + 1)) = if okR l[k] then putR (normR (l.take k)) l[k] else normR (l.take k) := by
  rw [List.take_succ_eq_append_getElem h]; unfold normR; rw [List.foldl_append]; rfl
theorem minus_step (a l : List (Int × Int)) (k : Nat) (h : k < l.length) : minusR a (l.take (k + 1)) = if okR l[k] then cutR (minusR a (l.take k)) l[k] else minusR a (l.take k) := by
  rw [List.take_succ_eq_append_getElem h]; unfold minusR; rw [List.foldl_append]; rfl

theorem minus_len' (a b : List (Int × Int)) : (minusR a b).length ≤ a.length + b.length + 1 := by
  rw [← minus_meet, ← meet_go]
  have h1 := meet_go_len _ (Nat.le_refl ((normR a).length + (normR (complR b 9223372036854775807)).length))
  have h2 := compl_len b (Int.le_refl 9223372036854775807)
  have := norm_len a; have := norm_len (complR b 9223372036854775807); omega
set_option maxHeartbeats 4000000 in
theorem rnorm_any (l : List (Int × Int)) (hf : fitR l) (hl : l.length ≤ 1000) (v : Value) (w : World) (hv : RunsIn v l w) :
    Calls Try.prog 13 #[v] w fun e w' => ∃ v', e = .returned v' ∧ RunsAt w.heap.size v' (normR l) w' ∧ Below w.heap.size w w' := by
  obtain ⟨ad, cap, rfl, h1, h2, h3, -⟩ := id hv
  have h2 : cap ≤ 9223372036854775807 := h2
  clear hv
  go_enter Try.func13, Try.ntmps13
  go_wp2
  go_loopw [3, 4] (fun vo p wr => ∃ (k : Nat) (out : List (Int × Int)), p = .int .i64 k ∧ k ≤ l.length ∧ Hid (out = normR (l.take k)) ∧ RunsAt w.heap.size vo out wr ∧ Below w.heap.size w wr) (fun _ p _ => l.length - (intOf p).toNat)
  case atStart => exact ⟨0, [], rfl, Nat.zero_le _, Lib.hid rfl, World.ownsRow_nil _ _ _ _, Below.refl _ _⟩
  case round =>
    obtain ⟨k, out, rfl, hk, HO, hown, hb⟩ := hrel
    by_cases hlt : k < l.length
    · obtain ⟨g, o, rfl, hg, hc⟩ := h3 (by omega)
      obtain ⟨c1, c2⟩ := hc k hlt
      have c1 := (hb.cell (p := ⟨g, o + k * 2, none⟩) hg).trans c1
      have c2 := (hb.cell (p := ⟨g, o + k * 2 + 1, none⟩) hg).trans c2
      have hgr : g < wr.heap.size := Nat.lt_of_lt_of_le hg hb.size
      have hfk := fit_at hf k hlt
      have hno : Norm (-1) out := by rw [HO.out]; exact norm_norm _
      have hlo : out.length ≤ 1000 := by rw [HO.out]; have := norm_len (l.take k); rw [List.length_take] at this; omega
      have HS : Hid (normR (l.take (k + 1)) = if okR (l[k].1, l[k].2) then putR out (l[k].1, l[k].2) else out) := Lib.hid (by rw [norm_step l k hlt, HO.out])
      have V := may_below l[k].1 l[k].2 hfk.1 hfk.2
      by_cases hok : okR (l[k].1, l[k].2)
      · rw [decide_eq_true hok] at V
        have P := fun v W h => put_any out hno hlo l[k].1 l[k].2 hok v W h
        have HS2 : Hid (putR out (l[k].1, l[k].2) = normR (l.take (k + 1))) := Lib.hid (by have := HS.out; rw [if_pos hok] at this; exact this.symm)
        generalize l[k].1 = a at *
        generalize l[k].2 = b at *
        have V := Lib.hid V
        clear hc h3 HS hok
        go_wp2_with fail
        refine (V.out _).mono ?_; rintro e w1 ⟨rfl, b1⟩
        have c1 := (b1.cell (p := ⟨g, o + k * 2, none⟩) hgr).trans c1
        have c2 := (b1.cell (p := ⟨g, o + k * 2 + 1, none⟩) hgr).trans c2
        have hown1 := row_kept hown b1
        have hb1 := bnext hb b1
        have P1 := Lib.hid (P _ _ (runsAt_in hown1))
        clear b1 V P hown hb
        go_wp2_with fail
        refine P1.out.mono ?_; rintro e w2 ⟨v2, rfl, r2, b2⟩
        have r3 := row_down hb1.size r2
        have hb2 := bnext hb1 b2
        clear r2 b2 hb1 hown1 P1 c1 c2
        go_wp2
        exact ⟨⟨k + 1, _, by go_num, by omega, HS2, r3, hb2⟩, by simp [intOf]; omega⟩
      · rw [decide_eq_false hok] at V
        have HS2 : Hid (out = normR (l.take (k + 1))) := Lib.hid (by have := HS.out; rw [if_neg hok] at this; exact this.symm)
        generalize l[k].1 = a at *
        generalize l[k].2 = b at *
        have V := Lib.hid V
        clear hc h3 HS hok
        go_wp2_with fail
        refine (V.out _).mono ?_; rintro e w1 ⟨rfl, b1⟩
        have hown1 := row_kept hown b1
        have hb1 := bnext hb b1
        clear b1 V hown hb c1 c2
        go_wp2
        exact ⟨⟨k + 1, out, by go_num, by omega, HS2, hown1, hb1⟩, by simp [intOf]; omega⟩
    · obtain rfl : k = l.length := by omega
      have HE : out = normR l := by have := HO.out; rwa [List.take_length] at this
      rw [HE] at hown
      clear h3 HO HE
      go_wp2
      go_ret
      exact ⟨_, rfl, hown, hb⟩

set_option maxHeartbeats 4000000 in
theorem runion_any (a b : List (Int × Int)) (hfa : fitR a) (hfb : fitR b) (hl : a.length + b.length ≤ 1000) (va vb : Value) (w : World) (ha : RunsIn va a w) (hb : RunsIn vb b w) :
    Calls Try.prog 31 #[va, vb] w fun e w' => ∃ v', e = .returned v' ∧ RunsAt w.heap.size v' (unionR a b) w' ∧ Below w.heap.size w w' := by
  obtain ⟨ada, capa, rfl, -⟩ := id ha
  obtain ⟨adb, capb, rfl, -⟩ := id hb
  have hb0 := balloc1 w (.cells #[] 37)
  have r0 : RunsAt w.heap.size (.slice (some ⟨w.heap.size, 0, none⟩) 0 0) [] (w.alloc (.cells #[] 37)) := World.ownsRow_lit (e := 37) (size := 2) w #[] 0 (Nat.le_refl _) (Nat.zero_le _) rfl
  have N := Lib.hid (fun v W h => rnorm_any (a ++ b) (fit_append hfa hfb) (by simp; omega) v W h)
  have hA := runsIn_kept ha hb0
  have hs0 := hb0.size
  clear ha
  go_enter Try.func31, Try.ntmps31
  go_wp2_with (at_builtin; refine wpList_appv rfl _ _ rfl w.heap.size _ [] rfl r0 _ a rfl hA (by simp; omega) hs0 ?_)
  intro v1 w1 h1 h2
  have hb1 := hb0.trans h2
  have hB := runsIn_kept hb hb1
  have hs1 := hb1.size
  clear hA h2 r0 hb hb0 hs0
  go_wp2_with (at_builtin; refine wpList_appv rfl _ _ rfl w.heap.size _ a rfl h1 _ b rfl hB (by omega) hs1 ?_)
  intro v2 w2 h3 h4
  have hb := hb1.trans h4
  have r3 := runsAt_in h3
  clear h1 hB hb1 h3 h4
  have hs2 := hb.size
  go_wp2_with fail
  refine (N.out _ _ r3).mono ?_; rintro e w3 ⟨v3, rfl, r4, b⟩
  have hb := bnext hb b
  clear b N r3
  go_wp2
  go_ret
  exact ⟨_, rfl, row_down hs2 r4, hb⟩

set_option maxHeartbeats 4000000 in
theorem rminus_any (a l : List (Int × Int)) (hfa : fitR a) (hf : fitR l) (hl : a.length + l.length ≤ 900) (va v : Value) (w : World) (ha : RunsIn va a w) (hv : RunsIn v l w) :
    Calls Try.prog 32 #[va, v] w fun e w' => ∃ v', e = .returned v' ∧ RunsAt w.heap.size v' (minusR a l) w' ∧ Below w.heap.size w w' := by
  obtain ⟨ad, cap, rfl, h1, h2, h3, -⟩ := id hv
  have h2 : cap ≤ 9223372036854775807 := h2
  have N := Lib.hid (rnorm_any a hfa (by omega) va w ha)
  clear hv ha
  go_enter Try.func32, Try.ntmps32
  go_wp2_with fail
  refine N.out.mono ?_; rintro e w1 ⟨vn, rfl, rn, hb1⟩
  clear N
  go_wp2
  go_loopw [5, 6] (fun vo p wr => ∃ (k : Nat) (out : List (Int × Int)), p = .int .i64 k ∧ k ≤ l.length ∧ Hid (out = minusR a (l.take k)) ∧ RunsAt w.heap.size vo out wr ∧ Below w.heap.size w wr) (fun _ p _ => l.length - (intOf p).toNat)
  case atStart => exact ⟨0, _, rfl, Nat.zero_le _, Lib.hid rfl, rn, hb1⟩
  case round =>
    obtain ⟨k, out, rfl, hk, HO, hown, hb⟩ := hrel
    clear rn hb1
    by_cases hlt : k < l.length
    · obtain ⟨g, o, rfl, hg, hc⟩ := h3 (by omega)
      obtain ⟨c1, c2⟩ := hc k hlt
      have c1 := (hb.cell (p := ⟨g, o + k * 2, none⟩) hg).trans c1
      have c2 := (hb.cell (p := ⟨g, o + k * 2 + 1, none⟩) hg).trans c2
      have hgr : g < wr.heap.size := Nat.lt_of_lt_of_le hg hb.size
      have hfk := fit_at hf k hlt
      have hno : Norm (-1) out := by rw [HO.out]; exact minus_norm _ _
      have hlo : out.length ≤ 1000 := by rw [HO.out]; have := minus_len' a (l.take k); rw [List.length_take] at this; omega
      have HS : Hid (minusR a (l.take (k + 1)) = if okR (l[k].1, l[k].2) then cutR out (l[k].1, l[k].2) else out) := Lib.hid (by rw [minus_step a l k hlt, HO.out])
      have V := may_below l[k].1 l[k].2 hfk.1 hfk.2
      by_cases hok : okR (l[k].1, l[k].2)
      · rw [decide_eq_true hok] at V
        have P := fun v W h => cut_any out hno hlo l[k].1 l[k].2 hok v W h
        have HS2 : Hid (cutR out (l[k].1, l[k].2) = minusR a (l.take (k + 1))) := Lib.hid (by have := HS.out; rw [if_pos hok] at this; exact this.symm)
        generalize l[k].1 = a1 at *
        generalize l[k].2 = b1 at *
        have V := Lib.hid V
        clear hc h3 HS hok
        go_wp2_with fail
        refine (V.out _).mono ?_; rintro e w2 ⟨rfl, b1⟩
        have c1 := (b1.cell (p := ⟨g, o + k * 2, none⟩) hgr).trans c1
        have c2 := (b1.cell (p := ⟨g, o + k * 2 + 1, none⟩) hgr).trans c2
        have hown1 := row_kept hown b1
        have hb1 := bnext hb b1
        have P1 := Lib.hid (P _ _ (runsAt_in hown1))
        clear b1 V P hown hb
        go_wp2_with fail
        refine P1.out.mono ?_; rintro e w3 ⟨v2, rfl, r2, b2⟩
        have r3 := row_down hb1.size r2
        have hb2 := bnext hb1 b2
        clear r2 b2 hb1 hown1 P1 c1 c2
        go_wp2
        exact ⟨⟨k + 1, _, by go_num, by omega, HS2, r3, hb2⟩, by simp [intOf]; omega⟩
      · rw [decide_eq_false hok] at V
        have HS2 : Hid (out = minusR a (l.take (k + 1))) := Lib.hid (by have := HS.out; rw [if_neg hok] at this; exact this.symm)
        generalize l[k].1 = a1 at *
        generalize l[k].2 = b1 at *
        have V := Lib.hid V
        clear hc h3 HS hok
        go_wp2_with fail
        refine (V.out _).mono ?_; rintro e w2 ⟨rfl, b1⟩
        have hown1 := row_kept hown b1
        have hb1 := bnext hb b1
        clear b1 V hown hb c1 c2
        go_wp2
        exact ⟨⟨k + 1, out, by go_num, by omega, HS2, hown1, hb1⟩, by simp [intOf]; omega⟩
    · obtain rfl : k = l.length := by omega
      have HE : out = minusR a l := by have := HO.out; rwa [List.take_length] at this
      rw [HE] at hown
      clear h3 HO HE
      go_wp2
      go_ret
      exact ⟨_, rfl, hown, hb⟩

set_option maxHeartbeats 2000000 in
theorem rmeet_any (a b : List (Int × Int)) (hfa : fitR a) (hfb : fitR b) (hl : a.length + b.length ≤ 300) (va vb : Value) (w : World) (ha : RunsIn va a w) (hb0 : RunsIn vb b w) :
    Calls Try.prog 33 #[va, vb] w fun e w' => ∃ v', e = .returned v' ∧ RunsAt w.heap.size v' (meetR a b) w' ∧ Below w.heap.size w w' := by
  have hl1 := minus_len' a b
  have C := Lib.hid (rminus_any a b hfa hfb (by omega) va vb w ha hb0)
  have M := Lib.hid (fun v W hA hB => rminus_any a (minusR a b) hfa (minus_norm a b).fit (by omega) va v W hA hB)
  go_enter Try.func33, Try.ntmps33
  go_wp2_with fail
  refine C.out.mono ?_; rintro e w1 ⟨v1, rfl, h1, hb1⟩
  go_wp2_with fail
  refine (M.out _ _ (runsIn_kept ha hb1) (runsAt_in h1)).mono ?_; rintro e w2 ⟨v2, rfl, h2, hb2⟩
  have hbw := bnext hb1 hb2
  have h3 := row_down hb1.size h2
  clear ha hb0 h1 h2 hb1 hb2 C M
  go_wp2
  go_ret
  exact ⟨_, rfl, h3, hbw⟩

set_option maxHeartbeats 2000000 in
theorem rcompl_any (l : List (Int × Int)) (hf : fitR l) (hl : l.length ≤ 800) (n : Int) (hn : I64 n) (v : Value) (w : World) (hv : RunsIn v l w) :
    Calls Try.prog 35 #[v, .int .i64 n] w fun e w' => ∃ v', e = .returned v' ∧ RunsAt w.heap.size v' (complR l n) w' ∧ Below w.heap.size w w' := by
  obtain ⟨hn1, hn2⟩ := hn
  by_cases h : n < 1
  · have e : complR l n = [] := by unfold complR; rw [if_pos h]
    rw [e]
    go_enter Try.func35, Try.ntmps35
    go_wp2
    go_ret
    exact ⟨_, rfl, World.ownsRow_nil _ _ _ _, Below.refl _ _⟩
  · have e : complR l n = minusR [(0, n)] l := by unfold complR; rw [if_neg h]
    rw [e]
    have h : 1 ≤ n := by omega
    have hb := balloc1 w (.cells #[.int .i64 0, .int .i64 n] 37)
    have M := Lib.hid (rminus_any [(0, n)] l (fun r hr => by simp at hr; subst hr; exact ⟨⟨by show (-9223372036854775808 : Int) ≤ 0; omega, by show (0 : Int) ≤ _; omega⟩, by show _ ≤ n; omega, by show n ≤ _; omega⟩) hf (by simp; omega) _ v _ (lit_in [(0, n)] w #[.int .i64 0, .int .i64 n] rfl (by simp) 1 rfl) (runsIn_kept hv hb))
    clear hv
    go_enter Try.func35, Try.ntmps35
    go_wp2_with fail
    refine (M.out).mono ?_; rintro e w1 ⟨v1, rfl, r1, b⟩
    have hb := bnext hb b
    clear b M
    go_wp2
    go_ret
    exact ⟨_, rfl, row_down (by rw [size_alloc]; omega) r1, hb⟩
end Go.Proofs.Ytmdkekbhondkbaa
