/- The walk of DirentsBack. -/
import Derived.Test.YtogdogadejjmeaaEAlive
namespace Go.Proofs.Ytogdogadejjmeaa
set_option linter.unusedVariables false
open Go.RowKit

def fitW (l : List Den) : Prop := ∀ d ∈ l, d.name.size ≤ maxLen ∧ I64 d.ino
theorem not_great : ∀ (l : List Den), bulk l ≤ 3000 → (∀ d ∈ l, d.name.size ≤ 3000) ∧ used l ≤ 5 * l.length + 3000 ∧ used l ≤ 5 * l.length + bulk l
  | [], _ => ⟨fun d hd => (by cases hd), by simp [used], by simp [used, bulk]⟩
  | d :: l, h => by
    have hb : bulk (d :: l) = 1 + min d.name.size 1000000 + bulk l := rfl
    obtain ⟨h1, h2, h3⟩ := not_great l (by omega)
    refine ⟨fun x hx => ?_, ?_, ?_⟩
    · rcases List.mem_cons.1 hx with rfl | hx
      · omega
      · exact h1 x hx
    · simp only [used, denLen, List.length_cons]; omega
    · simp only [used, denLen, List.length_cons]; omega
theorem great_no {l : List Den} (hf : fitW l) (h : greatB l = false) : fitD l ∧ l.length ≤ 100 ∧ used l ≤ 4000 := by
  unfold greatB at h
  rw [Bool.or_eq_false_iff, decide_eq_false_iff_not, decide_eq_false_iff_not] at h
  obtain ⟨h1, h2, h3⟩ := not_great l (by omega)
  exact ⟨fun d hd => ⟨by have := h1 d hd; omega, (hf d hd).2⟩, by omega, by omega⟩
theorem string_ne {a b : ByteArray} (h : a ≠ b) : (a.toList == b.toList) = false := by rw [str_beq]; exact decide_eq_false h
set_option maxRecDepth 100000 in
set_option maxHeartbeats 4000000 in
theorem eback_walk (l : List Den) (hf : fitW l) (s : ByteArray) (hs : s.size ≤ maxLen) (v : Value) (w : World) (hv : DensIn v l w) :
    Calls Try.prog 6 #[v, .string s] w fun e w' => e = .returned (.bool true) ∧ Below w.heap.size w w' := by
  have G := great_any l (fun d hd => (hf d hd).1) v w hv
  obtain ⟨ad, cap, rfl, -⟩ := densIn_cells hv
  have hs : s.size ≤ 9223372036854775807 := hs
  have AL := Lib.hid ealive_any
  cases hg : greatB l with
  | true =>
    rw [hg] at G
    have G := Lib.hid G
    clear hv
    go_enter Try.func6, Try.ntmps6
    go_wp2_with fail
    refine G.out.mono ?_; rintro e w1 ⟨rfl, b1⟩
    go_wp2
    go_ret
    exact ⟨rfl, b1⟩
  | false =>
    rw [hg] at G
    have G := Lib.hid G
    by_cases hbig : 2000 < s.size
    · have t1 : decide ((2000 : Int) < (s.size : Int)) = true := decide_eq_true (by omega)
      clear hv
      go_enter Try.func6, Try.ntmps6
      go_wp2_with fail
      refine G.out.mono ?_; rintro e w1 ⟨rfl, b1⟩
      go_wp2
      go_ret
      exact ⟨rfl, b1⟩
    · have t1 : decide ((2000 : Int) < (s.size : Int)) = false := decide_eq_false (by omega)
      obtain ⟨f1, f2, f3⟩ := great_no hf hg
      by_cases hE : packE l = 0
      · have hok := (packE_zero l).1 hE
        have PK := Lib.hid (pack_yes hok)
        have PP := Lib.hid (parse_any (pack l) (by rw [pack_size hok.2.2.2]; omega))
        have hdir : IsDir (pack l) := ⟨l, hok, rfl⟩
        have hz := pack_size hok.2.2.2
        rw [errP_yes hdir, listP_yes hdir, listOf_pack hok] at PP
        have SM : Hid (∀ v u w, DensIn v l w → DensIn u l w → Calls Try.prog 12 #[v, u] w fun e w' => e = .returned (.bool true) ∧ Below w.heap.size w w') := Lib.hid fun v u w h1 h2 => by
          have := esame_any l l v u w h1 h2
          rwa [decide_eq_true rfl] at this
        generalize pack l = S at *
        clear hE hok hdir f1 f3 hg hf
        go_enter Try.func6, Try.ntmps6
        go_wp2_with fail
        refine G.out.mono ?_; rintro e w1 ⟨rfl, b1⟩
        have hv1 := hv.kept b1
        go_wp2_with fail
        refine (PK.out _ _ hv1).mono ?_; rintro e w2 ⟨rfl, b2⟩
        have hv2 := hv1.kept b2
        have hb2 := bnext b1 b2
        clear b1 b2 hv1
        go_wp2_with fail
        refine (PP.out _).mono ?_; rintro e w3 ⟨v3, rfl, hv3, b3⟩
        have hv4 := hv2.kept b3
        have hb3 := bnext hb2 b3
        obtain ⟨ad3, cap3, rfl, -⟩ := shape_of hv3
        clear b3 hb2 hv2
        go_wp2_with fail
        refine (SM.out _ _ _ (densAt_in hv3) hv4).mono ?_; rintro e w5 ⟨rfl, b5⟩
        have hb5 := bnext hb3 b5
        clear b5 hb3 hv3 hv4 SM PP PK hv
        by_cases hd : IsDir s
        · have P := Lib.hid (parse_any s (by omega))
          rw [errP_yes hd] at P
          have K : Hid (∀ v w, DensIn v (listP s) w → Calls Try.prog 10 #[v] w fun e w' => e = .returned (.tuple #[.string s, .int .i64 0]) ∧ Below w.heap.size w w') := Lib.hid fun v w hv => by
            have := pack_yes (listP_ok s) v w hv
            rwa [listP_yes hd, (isDir_list hd).2.1] at this
          have hss : (s.toList == s.toList) = true := by simp
          generalize listP s = M at *
          go_wp2_with fail
          refine (P.out _).mono ?_; rintro e w6 ⟨v6, rfl, hv6, b6⟩
          obtain ⟨ad6, cap6, rfl, -⟩ := shape_of hv6
          have hb6 := bnext hb5 b6
          clear b6 hb5
          go_wp2_with fail
          refine (K.out _ _ (densAt_in hv6)).mono ?_; rintro e w7 ⟨rfl, b7⟩
          have hb7 := bnext hb6 b7
          clear b7 hb6 hv6
          go_wp2_with fail
          refine (AL.out _).mono ?_; rintro e w8 ⟨rfl, b8⟩
          go_wp2
          go_ret
          exact ⟨rfl, bnext hb7 b8⟩
        · have P := Lib.hid (parse_any s (by omega))
          rw [errP_no hd, listP_no hd] at P
          go_wp2_with fail
          refine (P.out _).mono ?_; rintro e w6 ⟨v6, rfl, hv6, b6⟩
          obtain ⟨ad6, cap6, rfl, -⟩ := shape_of hv6
          have hb6 := bnext hb5 b6
          clear b6 hb5
          go_wp2_with fail
          refine (AL.out _).mono ?_; rintro e w8 ⟨rfl, b8⟩
          go_wp2
          go_ret
          exact ⟨rfl, bnext hb6 b8⟩
      · have PK := fun v w hv => pack_any l (by omega) f1 (by omega) v w hv
        unfold packRet packS at PK
        rw [if_neg hE] at PK
        have t2 : (packE l == 0) = false := by rw [beq_eq_false_iff_ne]; exact hE
        generalize packE l = E at *
        have PK := Lib.hid PK
        clear f1 f3 hg hf hE
        go_enter Try.func6, Try.ntmps6
        go_wp2_with fail
        refine G.out.mono ?_; rintro e w1 ⟨rfl, b1⟩
        have hv1 := hv.kept b1
        go_wp2_with fail
        refine (PK.out _ _ hv1).mono ?_; rintro e w2 ⟨rfl, b2⟩
        have hb5 := bnext b1 b2
        clear b1 b2 hv1 PK hv
        by_cases hd : IsDir s
        · have P := Lib.hid (parse_any s (by omega))
          rw [errP_yes hd] at P
          have K : Hid (∀ v w, DensIn v (listP s) w → Calls Try.prog 10 #[v] w fun e w' => e = .returned (.tuple #[.string s, .int .i64 0]) ∧ Below w.heap.size w w') := Lib.hid fun v w hv => by
            have := pack_yes (listP_ok s) v w hv
            rwa [listP_yes hd, (isDir_list hd).2.1] at this
          have hss : (s.toList == s.toList) = true := by simp
          generalize listP s = M at *
          go_wp2_with fail
          refine (P.out _).mono ?_; rintro e w6 ⟨v6, rfl, hv6, b6⟩
          obtain ⟨ad6, cap6, rfl, -⟩ := shape_of hv6
          have hb6 := bnext hb5 b6
          clear b6 hb5
          go_wp2_with fail
          refine (K.out _ _ (densAt_in hv6)).mono ?_; rintro e w7 ⟨rfl, b7⟩
          have hb7 := bnext hb6 b7
          clear b7 hb6 hv6
          go_wp2_with fail
          refine (AL.out _).mono ?_; rintro e w8 ⟨rfl, b8⟩
          go_wp2
          go_ret
          exact ⟨rfl, bnext hb7 b8⟩
        · have P := Lib.hid (parse_any s (by omega))
          rw [errP_no hd, listP_no hd] at P
          go_wp2_with fail
          refine (P.out _).mono ?_; rintro e w6 ⟨v6, rfl, hv6, b6⟩
          obtain ⟨ad6, cap6, rfl, -⟩ := shape_of hv6
          have hb6 := bnext hb5 b6
          clear b6 hb5
          go_wp2_with fail
          refine (AL.out _).mono ?_; rintro e w8 ⟨rfl, b8⟩
          go_wp2
          go_ret
          exact ⟨rfl, bnext hb6 b8⟩
end Go.Proofs.Ytogdogadejjmeaa
