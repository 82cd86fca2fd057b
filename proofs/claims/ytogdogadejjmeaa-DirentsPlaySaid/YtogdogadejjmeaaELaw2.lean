/- The walk of DirentsUndo. -/
import Derived.Test.YtogdogadejjmeaaELaw1
namespace Go.Proofs.Ytogdogadejjmeaa
set_option linter.unusedVariables false
open Go.RowKit

theorem insR_zero {s : ByteArray} {x : Den} (h : insR s x = 0) : IsDir s ∧ ListOk (listOf s ++ [x]) ∧ ¬ Has (listOf s) x.name ∧ insS s x = pack (listOf s ++ [x]) := by
  unfold insR at h
  by_cases hd : IsDir s
  · rw [if_pos hd] at h
    have hok := (packE_zero _).1 h
    refine ⟨hd, hok, ((apart_snoc _ _).1 hok.2.2.1).2, ?_⟩
    unfold insS packS
    rw [if_pos hd, if_pos h]
  · rw [if_neg hd] at h; exact absurd h (by omega)
theorem insert_pack {l : List Den} {x : Den} (hl : ListOk l) (h : ListOk (l ++ [x])) : insS (pack l) x = pack (l ++ [x]) ∧ insR (pack l) x = 0 := by
  have hd : IsDir (pack l) := ⟨l, hl, rfl⟩
  have hE := (packE_zero _).2 h
  unfold insS insR packS
  rw [if_pos hd, if_pos hd, listOf_pack hl, if_pos hE]
  exact ⟨rfl, hE⟩
theorem listP_pack {l : List Den} (h : ListOk l) : listP (pack l) = l := by rw [listP_yes ⟨l, h, rfl⟩, listOf_pack h]
theorem roomP_pack {l : List Den} (h : ListOk l) : roomP (pack l) = 128 - (used l : Int) := by
  unfold roomP; rw [if_pos ⟨l, h, rfl⟩, listOf_pack h]
theorem dat_last {l : List Den} {d : Den} : dat (l ++ [d]) ((l ++ [d]).length - 1) = d := by
  unfold dat
  rw [List.length_append, List.length_singleton, Nat.add_sub_cancel, List.getElem?_append_right (Nat.le_refl _), Nat.sub_self]; rfl
theorem find_den {l : List Den} {s : ByteArray} {n : Int} (h : findD l s = some n) : ⟨s, n⟩ ∈ l := by
  unfold findD at h
  rw [Option.map_eq_some_iff] at h
  obtain ⟨d, hd, he⟩ := h
  have h1 := List.find?_some hd
  have h2 := List.mem_of_find?_eq_some hd
  have h1 : d.name = s := of_decide_eq_true h1
  have : d = ⟨s, n⟩ := Den.ext' h1 he
  rw [← this]; exact h2
set_option maxRecDepth 100000 in
set_option maxHeartbeats 1600000 in
theorem eundo_walk (s : ByteArray) (hs : s.size ≤ maxLen) (x : Den) (hx : x.name.size ≤ maxLen ∧ I64 x.ino) (w : World) :
    Calls Try.prog 8 #[.string s, denV x] w fun e w' => e = .returned (.bool true) ∧ Below w.heap.size w w' := by
  have mixed : Try.prog.follows .mixedOrders = true := by kernel_rfl
  have gh := den_held
  have hb0 := balloc1 w (.cells (denC x) 25)
  have HC := Lib.hid (den_new w x 25)
  have AL := Lib.hid ealive_any
  obtain ⟨hx1, hx2⟩ := hx
  have hs : s.size ≤ 9223372036854775807 := hs
  have hx1 : x.name.size ≤ 9223372036854775807 := hx1
  by_cases hbig : 2000 < s.size
  · have t1 : decide ((2000 : Int) < (s.size : Int)) = true := decide_eq_true (by omega)
    obtain ⟨nm, n⟩ := x
    dsimp only at *
    go_enter Try.func8, Try.ntmps8
    go_wp2
    go_ret
    exact ⟨rfl, hb0⟩
  · have t1 : decide ((2000 : Int) < (s.size : Int)) = false := decide_eq_false (by omega)
    by_cases hbn : 2000 < x.name.size
    · have t2 : decide ((2000 : Int) < (x.name.size : Int)) = true := decide_eq_true (by omega)
      obtain ⟨nm, n⟩ := x
      dsimp only at *
      go_enter Try.func8, Try.ntmps8
      go_wp2
      go_ret
      exact ⟨rfl, hb0⟩
    · have t2 : decide ((2000 : Int) < (x.name.size : Int)) = false := decide_eq_false (by omega)
      have IN := fun w => insert_any s (by omega) x (by omega) hx2 w
      by_cases hE : insR s x = 0
      · obtain ⟨hd, hok, hno, hS⟩ := insR_zero hE
        have hl := (isDir_list hd).1
        have hsz : (pack (listOf s ++ [x])).size ≤ 2000 := by rw [pack_size hok.2.2.2]; omega
        have hhas : Has (listOf s ++ [x]) x.name := by unfold Has; simp
        rw [hE, hS] at IN
        have RM : Hid (∀ w, Calls Try.prog 22 #[.string (pack (listOf s ++ [x])), .string x.name] w fun e w' => e = .returned (.tuple #[.string s, .bool true]) ∧ Below w.heap.size w w') := Lib.hid fun w => by
          have := remove_any (pack (listOf s ++ [x])) hsz x.name w
          unfold remS at this
          rw [listP_pack hok, if_pos hhas, decide_eq_true hhas, drop_snoc hno, (isDir_list hd).2.1] at this
          exact this
        have FD : Hid (∀ w, Calls Try.prog 16 #[.string (pack (listOf s ++ [x])), .string x.name] w fun e w' => e = .returned (.tuple #[.int .i64 x.ino, .bool true]) ∧ Below w.heap.size w w') := Lib.hid fun w => by
          have := find_any (pack (listOf s ++ [x])) hsz x.name w
          unfold findN at this
          rw [listP_pack hok, find_snoc hno] at this
          exact this
        have RB : Hid (∀ (b : ByteArray) (w : World), b.size ≤ 2000 → Calls Try.prog 18 #[.string b] w fun e w' => e = .returned (.int .i64 (roomP b)) ∧ Below w.heap.size w w') := Lib.hid fun b w h => room_any b h w
        have h0 : roomP s = 128 - (used (listOf s) : Int) := by unfold roomP; rw [if_pos hd]
        have h1 := roomP_pack hok
        have hu1 : used (listOf s ++ [x]) = used (listOf s) + (5 + x.name.size) := used_snoc _ _
        have hu2 := hok.2.2.2
        have k0 : 0 ≤ roomP s ∧ roomP s ≤ 128 := by omega
        have k1 : 0 ≤ roomP (pack (listOf s ++ [x])) ∧ roomP (pack (listOf s ++ [x])) ≤ 128 := by omega
        have kk : (roomP (pack (listOf s ++ [x])) == roomP s - 5 - (x.name.size : Int)) = true := by rw [beq_iff_eq]; omega
        have hssz : s.size ≤ 2000 := by omega
        have kn : x.name.size ≤ 200 := by omega
        have hss : (s.toList == s.toList) = true := by simp
        have IN := Lib.hid IN
        generalize pack (listOf s ++ [x]) = S at *
        have HSZ := Lib.hid hsz
        have HSS := Lib.hid hssz
        obtain ⟨k00, k01⟩ := k0
        obtain ⟨k10, k11⟩ := k1
        clear hE hd hok hno hS hl hsz hhas h0 h1 hu1 hu2 hssz
        obtain ⟨nm, n⟩ := x
        dsimp only at *
        go_enter Try.func8, Try.ntmps8
        go_wp2_with fail
        refine (IN.out _).mono ?_; rintro e w1 ⟨rfl, b1⟩
        obtain ⟨c0, c1⟩ := HC.out ⟨w1, b1⟩
        dsimp only at c0 c1
        go_wp2_with fail
        refine (RM.out _).mono ?_; rintro e w2 ⟨rfl, b2⟩
        have b2 := bnext b1 b2
        clear c0 c1
        obtain ⟨c0, c1⟩ := HC.out ⟨w2, b2⟩
        dsimp only at c0 c1
        go_wp2_with fail
        refine (FD.out _).mono ?_; rintro e w3 ⟨rfl, b3⟩
        have b3 := bnext b2 b3
        clear c0 c1 b1 b2
        have hz3 := b3.size
        have hcc : ∀ p : BelowP w3, p.to.cell? ⟨w.heap.size, 0, none⟩ = some (.string nm) ∧ p.to.cell? ⟨w.heap.size, 1, none⟩ = some (.int .i64 n) := fun p => HC.out ⟨p.to, b3.trans (p.h.mono hz3)⟩
        have q0 := fun p => (hcc p).1
        have q1 := fun p => (hcc p).2
        have hbw3 := bnext hb0 b3
        clear hcc
        go_wp2
        refine wp_region_quiet_below mixed (by kernel_rfl) ?_
        repeat (go_big_quiet_step (first | (go_at_call 18; refine calls_below (RB.out _ _ (by first | exact HSZ.out | exact HSS.out))) | (go_at_call 13; refine calls_below (AL.out _))))
        refine wpQuiet_nil ?_
        intro w0q hw'
        obtain ⟨⟨wq, bq⟩, hw''⟩ := hw'
        have hw2 : wq = w0q := hw''.symm
        clear hw''
        subst hw2
        go_wp2
        go_ret
        exact ⟨rfl, bnext hbw3 bq⟩
      · have t3 : (insR s x == 0) = false := by rw [beq_eq_false_iff_ne]; exact hE
        generalize insR s x = E at *
        generalize insS s x = S at *
        have FD := fun w => find_any s (by omega) x.name w
        cases hf : findD (listP s) x.name with
        | none =>
          rw [hf] at FD
          unfold findN at FD
          rw [hf] at FD
          have FD := Lib.hid FD
          have IN := Lib.hid IN
          clear hf hE
          obtain ⟨nm, n⟩ := x
          dsimp only at *
          go_enter Try.func8, Try.ntmps8
          go_wp2_with fail
          refine (IN.out _).mono ?_; rintro e w1 ⟨rfl, b1⟩
          obtain ⟨c0, c1⟩ := HC.out ⟨w1, b1⟩
          dsimp only at c0 c1
          go_wp2_with fail
          refine (FD.out _).mono ?_; rintro e w2 ⟨rfl, b2⟩
          have b2 := bnext b1 b2
          clear c0 c1
          go_wp2_with fail
          refine (AL.out _).mono ?_; rintro e w3 ⟨rfl, b3⟩
          have b3 := bnext b2 b3
          go_wp2
          go_ret
          exact ⟨rfl, bnext hb0 b3⟩
        | some k =>
          rw [hf] at FD
          unfold findN at FD
          rw [hf] at FD
          have hm := find_den hf
          have hhas : Has (listP s) x.name := (find_has _ _).1 (by rw [hf]; rfl)
          have hl := listP_ok s
          have hdir : IsDir s := Classical.byContradiction fun h => by rw [listP_no h] at hm; cases hm
          obtain ⟨u1, u2, u3⟩ := undo_again hl hm
          have u1 : insE (dropD (listP s) x.name) ⟨x.name, k⟩ = 0 := u1
          have u2 : ListOk (dropD (listP s) x.name ++ [⟨x.name, k⟩]) := u2
          have u3 : (dropD (listP s) x.name ++ [(⟨x.name, k⟩ : Den)]).length = (listP s).length := u3
          have hd2 := drop_ok hl x.name
          obtain ⟨i1, i2⟩ := insert_pack hd2 u2
          have hk : InoIn k := hl.2.1 _ hm
          have hkb : I64 k := ⟨by have := hk.1; omega, by have := hk.2; omega⟩
          have RM : Hid (∀ w, Calls Try.prog 22 #[.string s, .string x.name] w fun e w' => e = .returned (.tuple #[.string (pack (dropD (listP s) x.name)), .bool true]) ∧ Below w.heap.size w w') := Lib.hid fun w => by
            have := remove_any s (by omega) x.name w
            unfold remS at this
            rw [if_pos hhas, decide_eq_true hhas] at this
            exact this
          have IN2 : Hid (∀ w, Calls Try.prog 20 #[.string (pack (dropD (listP s) x.name)), .agg #[.string x.name, .int .i64 k]] w fun e w' => e = .returned (.tuple #[.string (pack (dropD (listP s) x.name ++ [⟨x.name, k⟩])), .int .i64 0]) ∧ Below w.heap.size w w') := Lib.hid fun w => by
            have := insert_any (pack (dropD (listP s) x.name)) (by rw [pack_size hd2.2.2.2]; omega) ⟨x.name, k⟩ (by dsimp only; omega) hkb w
            rw [i1, i2] at this
            exact this
          have P1 := fun w => parse_any s (by omega) w
          rw [errP_yes hdir] at P1
          have P2 := fun w => parse_any (pack (dropD (listP s) x.name ++ [⟨x.name, k⟩])) (by rw [pack_size u2.2.2.2]; omega) w
          rw [errP_yes ⟨_, u2, rfl⟩, listP_pack u2] at P2
          have hlast : dat (dropD (listP s) x.name ++ [⟨x.name, k⟩]) ((dropD (listP s) x.name ++ [(⟨x.name, k⟩ : Den)]).length - 1) = ⟨x.name, k⟩ := dat_last
          have hM := (listOk_fit u2).2.1
          have hpos : 0 < (dropD (listP s) x.name ++ [(⟨x.name, k⟩ : Den)]).length := by simp
          generalize pack (dropD (listP s) x.name ++ [⟨x.name, k⟩]) = U at *
          generalize dropD (listP s) x.name ++ [(⟨x.name, k⟩ : Den)] = M at *
          generalize pack (dropD (listP s) x.name) = T at *
          generalize listP s = L at *
          have FD := Lib.hid FD
          have IN := Lib.hid IN
          have P1 := Lib.hid P1
          have P2 := Lib.hid P2
          obtain ⟨nm, n⟩ := x
          dsimp only at *
          have RE := fun w => run_den_eq ⟨nm, k⟩ ⟨nm, k⟩ w
          rw [decide_eq_true rfl] at RE
          clear hf hE hm hhas hl hdir u1 u2 hd2 i1 i2 hk hkb
          go_enter Try.func8, Try.ntmps8
          go_wp2_with fail
          refine (IN.out _).mono ?_; rintro e w1 ⟨rfl, b1⟩
          obtain ⟨c0, c1⟩ := HC.out ⟨w1, b1⟩
          dsimp only at c0 c1
          go_wp2_with fail
          refine (FD.out _).mono ?_; rintro e w2 ⟨rfl, b2⟩
          have b2 := bnext b1 b2
          clear c0 c1
          obtain ⟨c0, c1⟩ := HC.out ⟨w2, b2⟩
          dsimp only at c0 c1
          go_wp2_with fail
          refine (RM.out _).mono ?_; rintro e w3 ⟨rfl, b3⟩
          have b3 := bnext b2 b3
          clear c0 c1
          obtain ⟨c0, c1⟩ := HC.out ⟨w3, b3⟩
          dsimp only at c0 c1
          go_wp2_with fail
          refine (IN2.out _).mono ?_; rintro e w4 ⟨rfl, b4⟩
          have b4 := bnext b3 b4
          clear c0 c1 b1 b2 b3
          go_wp2_with fail
          refine (P1.out _).mono ?_; rintro e w5 ⟨v5, rfl, hv5, b5⟩
          obtain ⟨ad5, cap5, rfl, -⟩ := shape_of hv5
          have b5 := bnext b4 b5
          clear b4
          go_wp2_with fail
          refine (P2.out _).mono ?_; rintro e w6 ⟨v6, rfl, hv6, b6⟩
          obtain ⟨ad6, cap6, hsh, hle6, hcap6, hcell, -⟩ := densIn_cells (densAt_in hv6)
          subst hsh
          obtain ⟨g, o, rfl, hg, hcell⟩ := hcell hpos
          have b6 := bnext b5 b6
          have hz6 := b6.size
          have hcm := fun p : BelowP w6 => hcell p.to p.h (M.length - 1) (by omega)
          rw [hlast] at hcm
          have hcc : ∀ p : BelowP w6, p.to.cell? ⟨w.heap.size, 0, none⟩ = some (.string nm) ∧ p.to.cell? ⟨w.heap.size, 1, none⟩ = some (.int .i64 n) := fun p => HC.out ⟨p.to, b6.trans (p.h.mono hz6)⟩
          have q0 := fun p => (hcc p).1
          have q1 := fun p => (hcc p).2
          have m0 := fun p => (hcm p).1
          have m1 := fun p => (hcm p).2
          obtain ⟨z, hz⟩ : ∃ z, M.length = z + 1 := ⟨M.length - 1, by omega⟩
          rw [← u3, hz]
          rw [hz] at m0 m1
          rw [Nat.add_sub_cancel] at m0 m1
          have hbw6 := bnext hb0 b6
          have hz9 : z ≤ 1000000000 := by omega
          clear hcc hcm hcell hlast
          go_wp2
          refine wp_region_quiet_below mixed (by kernel_rfl) ?_
          repeat (go_big_quiet_step (first | (go_at_call 13; refine calls_below (AL.out _))))
          refine wpQuiet_nil ?_
          intro w0q hw'
          obtain ⟨⟨wq, bq⟩, hw''⟩ := hw'
          have hw2 : wq = w0q := hw''.symm
          clear hw''
          subst hw2
          go_wp2
          go_ret
          exact ⟨rfl, bnext hbw6 bq⟩
end Go.Proofs.Ytogdogadejjmeaa
