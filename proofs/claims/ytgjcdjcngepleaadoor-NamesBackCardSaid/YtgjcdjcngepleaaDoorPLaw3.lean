/- The walk of NamesBack. -/
import Derived.Test.YtgjcdjcngepleaaDoorPAlive
namespace Go.Proofs.YtgjcdjcngepleaaDoor
set_option linter.unusedVariables false
open Go.RowKit

set_option maxRecDepth 100000 in
set_option maxHeartbeats 4000000 in
theorem pback_walk (l : List ByteArray) (hf : ∀ x ∈ l, x.size ≤ maxLen) (s : ByteArray) (hs : s.size ≤ maxLen) (v : Value) (w : World) (hv : StrsIn v l w) :
    Calls Tryd.prog 5 #[v, .string s] w fun e w' => e = .returned (.bool true) ∧ Below w.heap.size w w' := by
  have G := tgreat_any l hf v w hv
  obtain ⟨ad, cap, rfl, -⟩ := strsIn_cells hv
  have hs : s.size ≤ 9223372036854775807 := hs
  have AL := Lib.hid palive_any
  cases hg : greatT l with
  | true =>
    rw [hg] at G
    have G := Lib.hid G
    clear hv
    go_enter Tryd.func5, Tryd.ntmps5
    go_wp2_with fail
    refine G.out.mono ?_; rintro e w1 ⟨rfl, b1⟩
    go_wp2
    go_ret
    exact ⟨rfl, b1⟩
  | false =>
    rw [hg] at G
    have G := Lib.hid G
    by_cases hbig : 5000 < s.size
    · have t1 : decide ((5000 : Int) < (s.size : Int)) = true := decide_eq_true (by omega)
      clear hv
      go_enter Tryd.func5, Tryd.ntmps5
      go_wp2_with fail
      refine G.out.mono ?_; rintro e w1 ⟨rfl, b1⟩
      go_wp2
      go_ret
      exact ⟨rfl, b1⟩
    · have t1 : decide ((5000 : Int) < (s.size : Int)) = false := decide_eq_false (by omega)
      have PK := join_any l hf
      by_cases hE : joinE l = 0
      · have hok := (joinE_zero l).1 hE
        have hS : joinS l = pathOf l := by unfold joinS; rw [if_pos hE]
        obtain ⟨p1, p2⟩ := split_path hok
        have hz : (pathOf l).size ≤ 256 := by
          by_cases h0 : l = []
          · subst h0; decide
          · rw [pathOf_ne h0]; exact hok.2.2
        have hl16 := hok.2.1
        have PP := split_any (pathOf l) (by omega)
        rw [p1, p2] at PP
        rw [hE, hS] at PK
        have SM : Hid (∀ v u w, StrsIn v l w → StrsIn u l w → Calls Tryd.prog 13 #[v, u] w fun e w' => e = .returned (.bool true) ∧ Below w.heap.size w w') := Lib.hid fun v u w h1 h2 => by
          have := tsame_any l l v u w h1 h2
          rwa [decide_eq_true rfl] at this
        have PP := Lib.hid PP
        have PK := Lib.hid PK
        generalize pathOf l = S at *
        have t2 : decide ((256 : Int) < (S.size : Int)) = false := decide_eq_false (by omega)
        have t3 : decide ((16 : Int) < (l.length : Int)) = false := decide_eq_false (by omega)
        clear hE hok hS p1 p2 hg hf
        go_enter Tryd.func5, Tryd.ntmps5
        go_wp2_with fail
        refine G.out.mono ?_; rintro e w1 ⟨rfl, b1⟩
        have hv1 := hv.kept b1
        go_wp2_with fail
        refine (PK.out _ _ hv1).mono ?_; rintro e w2 ⟨rfl, b2⟩
        have hv2 := hv1.kept b2
        have hb2 := bnext b1 b2
        clear b1 b2 hv1
        go_wp2_with fail
        refine (PP.out _).mono ?_; rintro e w3 ⟨v3, rfl, hv3, b3⟩
        have hv4 := hv2.kept b3
        have hb3 := bnext hb2 b3
        obtain ⟨ad3, cap3, rfl, -⟩ := shape_of hv3
        clear b3 hb2 hv2
        go_wp2_with fail
        refine (SM.out _ _ _ (strsAt_in hv3) hv4).mono ?_; rintro e w5 ⟨rfl, b5⟩
        have hb5 := bnext hb3 b5
        clear b5 hb3 hv3 hv4 SM PP PK hv
        by_cases hE : splitE s = 0
        · obtain ⟨hj, hp⟩ := join_split hE
          have P := split_any s (by omega)
          rw [hE] at P
          have P := Lib.hid P
          have K : Hid (∀ v w, StrsIn v (splitV s) w → Calls Tryd.prog 16 #[v] w fun e w' => e = .returned (.tuple #[.string s, .int .i64 0]) ∧ Below w.heap.size w w') := Lib.hid fun v w hv => by
            have h0 := (joinE_zero _).2 hj
            have := join_any (splitV s) (fun d hd => by have := (hj.1 d hd).1.2; unfold maxLen; omega) v w hv
            unfold joinS at this
            rwa [if_pos h0, h0, hp] at this
          have hss : (s.toList == s.toList) = true := by simp
          generalize splitV s = M at *
          go_wp2_with fail
          refine (P.out _).mono ?_; rintro e w6 ⟨v6, rfl, hv6, b6⟩
          obtain ⟨ad6, cap6, rfl, -⟩ := shape_of hv6
          have hb6 := bnext hb5 b6
          clear b6 hb5
          go_wp2_with fail
          refine (K.out _ _ (strsAt_in hv6)).mono ?_; rintro e w7 ⟨rfl, b7⟩
          have hb7 := bnext hb6 b7
          clear b7 hb6 hv6
          go_wp2_with fail
          refine (AL.out _).mono ?_; rintro e w8 ⟨rfl, b8⟩
          go_wp2
          go_ret
          exact ⟨rfl, bnext hb7 b8⟩
        · obtain ⟨hV, hk⟩ := split_bad hE
          have P := split_any s (by omega)
          rw [hV] at P
          have P := Lib.hid P
          have t5 : (splitE s != 0) = true := by rw [bne_iff_ne]; exact hE
          have t6 : (splitE s == 0) = false := by rw [beq_eq_false_iff_ne]; exact hE
          rcases hk with hk | hk
          · rw [hk] at P
            clear hE hV hk t5 t6
            go_wp2_with fail
            refine (P.out _).mono ?_; rintro e w6 ⟨v6, rfl, hv6, b6⟩
            obtain ⟨ad6, cap6, rfl, -⟩ := shape_of hv6
            have hb6 := bnext hb5 b6
            clear b6 hb5
            go_wp2_with fail
            refine (AL.out _).mono ?_; rintro e w8 ⟨rfl, b8⟩
            go_wp2
            go_ret
            exact ⟨rfl, bnext hb6 b8⟩
          · rw [hk] at P
            clear hE hV hk t5 t6
            go_wp2_with fail
            refine (P.out _).mono ?_; rintro e w6 ⟨v6, rfl, hv6, b6⟩
            obtain ⟨ad6, cap6, rfl, -⟩ := shape_of hv6
            have hb6 := bnext hb5 b6
            clear b6 hb5
            go_wp2_with fail
            refine (AL.out _).mono ?_; rintro e w8 ⟨rfl, b8⟩
            go_wp2
            go_ret
            exact ⟨rfl, bnext hb6 b8⟩
      · have hS : joinS l = ⟨#[]⟩ := by unfold joinS; rw [if_neg hE]
        rw [hS] at PK
        have t2 : (joinE l == 0) = false := by rw [beq_eq_false_iff_ne]; exact hE
        generalize joinE l = E at *
        have PK := Lib.hid PK
        clear hg hf hE hS
        go_enter Tryd.func5, Tryd.ntmps5
        go_wp2_with fail
        refine G.out.mono ?_; rintro e w1 ⟨rfl, b1⟩
        have hv1 := hv.kept b1
        go_wp2_with fail
        refine (PK.out _ _ hv1).mono ?_; rintro e w2 ⟨rfl, b2⟩
        have hb5 := bnext b1 b2
        clear b1 b2 hv1 PK hv
        by_cases hE : splitE s = 0
        · obtain ⟨hj, hp⟩ := join_split hE
          have P := split_any s (by omega)
          rw [hE] at P
          have P := Lib.hid P
          have K : Hid (∀ v w, StrsIn v (splitV s) w → Calls Tryd.prog 16 #[v] w fun e w' => e = .returned (.tuple #[.string s, .int .i64 0]) ∧ Below w.heap.size w w') := Lib.hid fun v w hv => by
            have h0 := (joinE_zero _).2 hj
            have := join_any (splitV s) (fun d hd => by have := (hj.1 d hd).1.2; unfold maxLen; omega) v w hv
            unfold joinS at this
            rwa [if_pos h0, h0, hp] at this
          have hss : (s.toList == s.toList) = true := by simp
          generalize splitV s = M at *
          go_wp2_with fail
          refine (P.out _).mono ?_; rintro e w6 ⟨v6, rfl, hv6, b6⟩
          obtain ⟨ad6, cap6, rfl, -⟩ := shape_of hv6
          have hb6 := bnext hb5 b6
          clear b6 hb5
          go_wp2_with fail
          refine (K.out _ _ (strsAt_in hv6)).mono ?_; rintro e w7 ⟨rfl, b7⟩
          have hb7 := bnext hb6 b7
          clear b7 hb6 hv6
          go_wp2_with fail
          refine (AL.out _).mono ?_; rintro e w8 ⟨rfl, b8⟩
          go_wp2
          go_ret
          exact ⟨rfl, bnext hb7 b8⟩
        · obtain ⟨hV, hk⟩ := split_bad hE
          have P := split_any s (by omega)
          rw [hV] at P
          have P := Lib.hid P
          have t5 : (splitE s != 0) = true := by rw [bne_iff_ne]; exact hE
          have t6 : (splitE s == 0) = false := by rw [beq_eq_false_iff_ne]; exact hE
          rcases hk with hk | hk
          · rw [hk] at P
            clear hE hV hk t5 t6
            go_wp2_with fail
            refine (P.out _).mono ?_; rintro e w6 ⟨v6, rfl, hv6, b6⟩
            obtain ⟨ad6, cap6, rfl, -⟩ := shape_of hv6
            have hb6 := bnext hb5 b6
            clear b6 hb5
            go_wp2_with fail
            refine (AL.out _).mono ?_; rintro e w8 ⟨rfl, b8⟩
            go_wp2
            go_ret
            exact ⟨rfl, bnext hb6 b8⟩
          · rw [hk] at P
            clear hE hV hk t5 t6
            go_wp2_with fail
            refine (P.out _).mono ?_; rintro e w6 ⟨v6, rfl, hv6, b6⟩
            obtain ⟨ad6, cap6, rfl, -⟩ := shape_of hv6
            have hb6 := bnext hb5 b6
            clear b6 hb5
            go_wp2_with fail
            refine (AL.out _).mono ?_; rintro e w8 ⟨rfl, b8⟩
            go_wp2
            go_ret
            exact ⟨rfl, bnext hb6 b8⟩
end Go.Proofs.YtgjcdjcngepleaaDoor
