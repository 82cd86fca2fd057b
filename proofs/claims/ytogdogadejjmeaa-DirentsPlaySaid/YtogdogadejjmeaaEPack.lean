/- encoded, fault, Pack. -/
import Derived.Test.YtogdogadejjmeaaEName
import Derived.Test.YtogdogadejjmeaaERep
import Derived.Test.YtogdogadejjmeaaEIdx
import Derived.Test.YtogdogadejjmeaaEMath2
import Derived.Test.YtogdogadejjmeaaWPutI
import Derived.Test.YtogdogadejjmeaaKRep
namespace Go.Proofs.Ytogdogadejjmeaa
set_option linter.unusedVariables false
open Go.RowKit

theorem names_any (l : List Den) : (l.any fun d => !decide (NameOk d.name)) = !decide (Names l) := by
  rw [Bool.eq_iff_iff, List.any_eq_true, Bool.not_eq_true', decide_eq_false_iff_not]
  unfold Names
  simp only [Bool.not_eq_true', decide_eq_false_iff_not]
  constructor
  · rintro ⟨d, hd, hn⟩ h; exact hn (h d hd)
  · intro h; exact Classical.byContradiction fun k => h fun d hd => Classical.byContradiction fun q => k ⟨d, hd, q⟩
theorem inos_any (l : List Den) : (l.any fun d => !decide (InoIn d.ino)) = !decide (Inos l) := by
  rw [Bool.eq_iff_iff, List.any_eq_true, Bool.not_eq_true', decide_eq_false_iff_not]
  unfold Inos
  simp only [Bool.not_eq_true', decide_eq_false_iff_not]
  constructor
  · rintro ⟨d, hd, hn⟩ h; exact hn (h d hd)
  · intro h; exact Classical.byContradiction fun k => h fun d hd => Classical.byContradiction fun q => k ⟨d, hd, q⟩
set_option maxHeartbeats 4000000 in
theorem fault_any (l : List Den) (hl : l.length ≤ 100000) (hf : fitD l) (hu : used l ≤ 1000000000000) (v : Value) (w : World) (hv : DensIn v l w) :
    Calls Try.prog 24 #[v] w fun e w' => e = .returned (.int .i64 (packE l)) ∧ Below w.heap.size w w' := by
  have e36 : ∀ args w, (callFunc 36 args).run Try.prog w = .ok (.enter 36 args) w := enters_of Try.func36 (by kernel_rfl) rfl
  have e37 : ∀ args w, (callFunc 37 args).run Try.prog w = .ok (.enter 37 args) w := enters_of Try.func37 (by kernel_rfl) rfl
  have C1 : ∀ W, Below w.heap.size w W → Calls Try.prog 35 #[v, .func (.func 36) #[] #[]] W fun e w' => e = .returned (.bool (!decide (Names l))) ∧ Below W.heap.size W w' := fun W hW => by
    have := cont_any l 36 (fun d => !decide (NameOk d.name)) v W (hv.kept hW) e36 (fun d hd W2 _ => misnamed_any d W2)
    rwa [names_any] at this
  have C2 : ∀ W, Below w.heap.size w W → Calls Try.prog 35 #[v, .func (.func 37) #[] #[]] W fun e w' => e = .returned (.bool (!decide (Inos l))) ∧ Below W.heap.size W w' := fun W hW => by
    have := cont_any l 37 (fun d => !decide (InoIn d.ino)) v W (hv.kept hW) e37 (fun d hd W2 _ => misled_any d W2)
    rwa [inos_any] at this
  have C3 : ∀ W, Below w.heap.size w W → Calls Try.prog 38 #[v] W fun e w' => e = .returned (.bool (!decide (Apart l))) ∧ Below W.heap.size W w' := fun W hW => repeated_any l hl hf v W (hv.kept hW)
  have C4 : ∀ W, Below w.heap.size w W → Calls Try.prog 33 #[v] W fun e w' => e = .returned (.int .i64 (used l : Int)) ∧ Below W.heap.size W w' := fun W hW => taken_any l hu v W (hv.kept hW)
  obtain ⟨ad, cap, rfl, -⟩ := densIn_cells hv
  have b0 := Below.refl w.heap.size w
  unfold packE
  by_cases h1 : Names l
  · rw [decide_eq_true h1] at C1
    rw [if_neg (not_not_intro h1)]
    by_cases h2 : Inos l
    · rw [decide_eq_true h2] at C2
      rw [if_neg (not_not_intro h2)]
      by_cases h3 : Apart l
      · rw [decide_eq_true h3] at C3
        rw [if_neg (not_not_intro h3)]
        have C1 := Lib.hid C1; have C2 := Lib.hid C2; have C3 := Lib.hid C3; have C4 := Lib.hid C4
        by_cases h4 : 128 < used l
        · have HR : Hid ((if 128 < used l then (120 : Int) else 0) = 120) := Lib.hid (if_pos h4)
          rw [HR.out]
          have t4 : decide ((128 : Int) < (used l : Int)) = true := decide_eq_true (by omega)
          clear HR h1 h2 h3 h4 e36 e37
          go_enter Try.func24, Try.ntmps24
          go_wp2_with fail
          refine (C1.out _ b0).mono ?_; rintro e w1 ⟨rfl, b1⟩
          go_wp2_with fail
          refine (C2.out _ b1).mono ?_; rintro e w2 ⟨rfl, b2⟩
          have b2 := bnext b1 b2
          go_wp2_with fail
          refine (C3.out _ b2).mono ?_; rintro e w3 ⟨rfl, b3⟩
          have b3 := bnext b2 b3
          go_wp2_with fail
          refine (C4.out _ b3).mono ?_; rintro e w4 ⟨rfl, b4⟩
          have b4 := bnext b3 b4
          go_wp2
          go_ret
          exact ⟨rfl, b4⟩
        · have HR : Hid ((if 128 < used l then (120 : Int) else 0) = 0) := Lib.hid (if_neg h4)
          rw [HR.out]
          have t4 : decide ((128 : Int) < (used l : Int)) = false := decide_eq_false (by omega)
          clear HR h1 h2 h3 h4 e36 e37
          go_enter Try.func24, Try.ntmps24
          go_wp2_with fail
          refine (C1.out _ b0).mono ?_; rintro e w1 ⟨rfl, b1⟩
          go_wp2_with fail
          refine (C2.out _ b1).mono ?_; rintro e w2 ⟨rfl, b2⟩
          have b2 := bnext b1 b2
          go_wp2_with fail
          refine (C3.out _ b2).mono ?_; rintro e w3 ⟨rfl, b3⟩
          have b3 := bnext b2 b3
          go_wp2_with fail
          refine (C4.out _ b3).mono ?_; rintro e w4 ⟨rfl, b4⟩
          have b4 := bnext b3 b4
          go_wp2
          go_ret
          exact ⟨rfl, b4⟩
      · rw [decide_eq_false h3] at C3
        rw [if_pos h3]
        have C1 := Lib.hid C1; have C2 := Lib.hid C2; have C3 := Lib.hid C3
        clear h1 h2 h3 e36 e37 C4
        go_enter Try.func24, Try.ntmps24
        go_wp2_with fail
        refine (C1.out _ b0).mono ?_; rintro e w1 ⟨rfl, b1⟩
        go_wp2_with fail
        refine (C2.out _ b1).mono ?_; rintro e w2 ⟨rfl, b2⟩
        have b2 := bnext b1 b2
        go_wp2_with fail
        refine (C3.out _ b2).mono ?_; rintro e w3 ⟨rfl, b3⟩
        have b3 := bnext b2 b3
        go_wp2
        go_ret
        exact ⟨rfl, b3⟩
    · rw [decide_eq_false h2] at C2
      rw [if_pos h2]
      have C1 := Lib.hid C1; have C2 := Lib.hid C2
      clear h1 h2 e36 e37 C3 C4
      go_enter Try.func24, Try.ntmps24
      go_wp2_with fail
      refine (C1.out _ b0).mono ?_; rintro e w1 ⟨rfl, b1⟩
      go_wp2_with fail
      refine (C2.out _ b1).mono ?_; rintro e w2 ⟨rfl, b2⟩
      have b2 := bnext b1 b2
      go_wp2
      go_ret
      exact ⟨rfl, b2⟩
  · rw [decide_eq_false h1] at C1
    rw [if_pos h1]
    have C1 := Lib.hid C1
    clear h1 e36 e37 C2 C3 C4
    go_enter Try.func24, Try.ntmps24
    go_wp2_with fail
    refine (C1.out _ b0).mono ?_; rintro e w1 ⟨rfl, b1⟩
    go_wp2
    go_ret
    exact ⟨rfl, b1⟩

/-! ### encoded -/
theorem put_len (n : Nat) (h : n < 256) : putIntV (bs (zeroL 5)) 0 1 (n : Int) = bs (UInt8.ofNat n :: zeroL 4) := by
  have hs : (bs (zeroL 5)).size = 5 := by rw [bs_size, zeroL_length]
  unfold putIntV
  rw [if_pos (by omega), Int.toNat_natCast]
  have hk : putOk (bs (zeroL 5)).size ((0 : Nat) : Int) ((1 : Nat) : Int) n = true := by unfold putOk fieldOk; rw [hs]; simp; omega
  show putV (bs (zeroL 5)) ((0 : Nat) : Int) ((1 : Nat) : Int) n = _
  rw [putV_yes hk]
  unfold putS putL
  rw [bs_list]
  rfl
theorem put_ino (c : UInt8) (n : Nat) (h : n < 4294967296) : putIntV (bs (c :: zeroL 4)) 1 4 (n : Int) = bs (c :: leB 4 n) := by
  have hs : (bs (c :: zeroL 4)).size = 5 := by rw [bs_size, List.length_cons, zeroL_length]
  unfold putIntV
  rw [if_pos (by omega), Int.toNat_natCast]
  have hk : putOk (bs (c :: zeroL 4)).size ((1 : Nat) : Int) ((4 : Nat) : Int) n = true := by unfold putOk fieldOk; rw [hs]; simp; omega
  show putV (bs (c :: zeroL 4)) ((1 : Nat) : Int) ((4 : Nat) : Int) n = _
  rw [putV_yes hk]
  unfold putS putL
  rw [bs_list]
  rfl
set_option maxHeartbeats 4000000 in
theorem encoded_any (d : Den) (hn : NameOk d.name) (hi : InoIn d.ino) (w : World) :
    Calls Try.prog 25 #[denV d] w fun e w' => e = .returned (.string (bs (denB d))) ∧ Below w.heap.size w w' := by
  have hb := balloc1 w (.cells (denC d) 25)
  have hcl := (den_new w d 25)
  obtain ⟨m, hm⟩ := Int.eq_ofNat_of_zero_le hi.1
  have hm2 : m < 4294967296 := by have := hi.2; omega
  have hsz := hn.1.2
  have R := Lib.hid (repeat_any 5 (by omega))
  have P1 := Lib.hid (putInt_any (bs (zeroL 5)) (by rw [bs_size, zeroL_length]; unfold maxLen; omega) 0 1 (d.name.size : Int) (by omega))
  have P2 := Lib.hid (putInt_any (bs (UInt8.ofNat d.name.size :: zeroL 4)) (by rw [bs_size, List.length_cons, zeroL_length]; unfold maxLen; omega) 1 4 (m : Int) (by omega))
  rw [put_len _ (by omega)] at P1
  rw [put_ino _ _ hm2] at P2
  have HR : Hid (bs (UInt8.ofNat d.name.size :: leB 4 m) ++ d.name = bs (denB d)) := Lib.hid (by
    conv => lhs; rw [← bs_of d.name]
    rw [bs_append]; unfold denB
    rw [hm]; simp [bs_of])
  have hs2 : (bs (UInt8.ofNat d.name.size :: leB 4 m)).size = 5 := by rw [bs_size, List.length_cons, leB_length]
  generalize bs (denB d) = R0 at *
  generalize bs (UInt8.ofNat d.name.size :: leB 4 m) = S2 at *
  generalize bs (UInt8.ofNat d.name.size :: zeroL 4) = S1 at *
  generalize bs (zeroL 5) = S0 at *
  generalize putIntOk S0.size 0 1 (d.name.size : Int) = o1 at *
  generalize putIntOk S1.size 1 4 (m : Int) = o2 at *
  obtain ⟨nm, n⟩ := d
  dsimp only at *
  subst hm
  have HC := Lib.hid hcl
  clear hn hi hcl
  go_enter Try.func25, Try.ntmps25
  go_wp2_with fail
  refine (R.out _).mono ?_; rintro e w1 ⟨rfl, b1⟩
  obtain ⟨c0, c1⟩ := HC.out ⟨w1, b1⟩
  dsimp only at c0 c1
  have hb1 := bnext hb b1
  go_wp2_with fail
  refine (P1.out _).mono ?_; rintro e w2 ⟨rfl, b2⟩
  have hb2 := bnext hb1 b2
  clear c0 c1
  obtain ⟨c0, c1⟩ := HC.out ⟨w2, bnext b1 b2⟩
  dsimp only at c0 c1
  go_wp2_with fail
  refine (P2.out _).mono ?_; rintro e w3 ⟨rfl, b3⟩
  have hb3 := bnext hb2 b3
  clear c0 c1
  obtain ⟨c0, c1⟩ := HC.out ⟨w3, bnext (bnext b1 b2) b3⟩
  dsimp only at c0 c1
  go_wp2
  go_ret
  exact ⟨by rw [HR.out]; rfl, hb3⟩

/-! ### Pack -/
def packS (l : List Den) : ByteArray := if packE l = 0 then pack l else ⟨#[]⟩
abbrev packRet (l : List Den) : Ending := .returned (.tuple #[.string (packS l), .int .i64 (packE l)])
theorem densB_take {l : List Den} {k : Nat} (h : k < l.length) : bs (densB (l.take k)) ++ bs (denB (dat l k)) = bs (densB (l.take (k + 1))) := by
  rw [bs_append, List.take_succ_eq_append_getElem h, densB_snoc, dat_eq h]
set_option maxHeartbeats 4000000 in
theorem pack_any (l : List Den) (hl : l.length ≤ 100000) (hf : fitD l) (hu : used l ≤ 1000000000000) (v : Value) (w : World) (hv : DensIn v l w) :
    Calls Try.prog 10 #[v] w fun e w' => e = packRet l ∧ Below w.heap.size w w' := by
  have F := fault_any l hl hf hu v w hv
  obtain ⟨ad, cap, rfl, p1, p2, p3, -⟩ := densIn_cells hv
  unfold packRet packS
  by_cases h : packE l = 0
  · rw [if_pos h, h]
    rw [h] at F
    have hok := (packE_zero l).1 h
    have HD : Hid (∀ k, k < l.length → bs (densB (l.take k)) ++ bs (denB (dat l k)) = bs (densB (l.take (k + 1)))) := Lib.hid fun k hk => densB_take hk
    have HE : Hid (∀ k, k < l.length → ∀ w, Calls Try.prog 25 #[denV (dat l k)] w fun e w' => e = .returned (.string (bs (denB (dat l k)))) ∧ Below w.heap.size w w') := Lib.hid fun k hk w => encoded_any _ (hok.1 _ (dat_mem hk)) (hok.2.1 _ (dat_mem hk)) w
    have hu2 := hok.2.2.2
    have HF : Hid (bs (densB (l.take l.length)) ++ bs (zeroL (128 - used l)) = pack l) := Lib.hid (by
      rw [List.take_length, bs_append]; rfl)
    have HZ : Hid ((bs (densB (l.take l.length))).size = used l) := Lib.hid (by rw [List.take_length, bs_size, densB_length])
    have H0 : Hid (bs (densB (l.take 0)) = ⟨#[]⟩) := Lib.hid rfl
    have HS : Hid (∀ k, (bs (densB (l.take k))).size ≤ 128) := Lib.hid fun k => by rw [bs_size, densB_length]; have := used_le_take l k; omega
    have HB : Hid (∀ k, k < l.length → (bs (denB (dat l k))).size ≤ 37) := Lib.hid fun k hk => by
      rw [bs_size, denB_length]
      have := (hok.1 _ (dat_mem hk)).1.2
      unfold denLen; omega
    have hzz : (bs (zeroL (128 - used l))).size = 128 - used l := by rw [bs_size, zeroL_length]
    have R := Lib.hid (repeat_any (128 - used l) (by omega))
    have hzi : (128 : Int) - (used l : Int) = ((128 - used l : Nat) : Int) := by omega
    generalize pack l = PK at *
    generalize used l = U at *
    obtain ⟨S, hS⟩ : ∃ S : Nat → ByteArray, S = fun k => bs (densB (l.take k)) := ⟨_, rfl⟩
    have hS2 : ∀ k, bs (densB (l.take k)) = S k := fun k => by rw [hS]
    simp only [hS2] at HD HF HZ H0 HS
    clear hS hS2
    obtain ⟨D, hD⟩ : ∃ D : Nat → Den, D = dat l := ⟨_, rfl⟩
    rw [← hD] at HD HE p3 HB
    generalize l.length = n at *
    generalize bs (zeroL (128 - U)) = ZB at *
    have F := Lib.hid F
    clear hv hD hok h hf
    go_enter Try.func10, Try.ntmps10
    go_wp2_with fail
    refine F.out.mono ?_; rintro e w1 ⟨rfl, b1⟩
    go_wp2
    go_loopw [5, 15] (fun p q wr => ∃ k : Nat, q = .int .i64 k ∧ p = .string (S k) ∧ k ≤ n ∧ Below w.heap.size w wr) (fun _ q _ => n - (intOf q).toNat)
    case atStart => exact ⟨0, rfl, by rw [H0.out], Nat.zero_le _, b1⟩
    case round =>
      obtain ⟨k, rfl, rfl, hk, hb⟩ := hrel
      by_cases hlt : k < n
      · obtain ⟨g, o, rfl, hg, hcc⟩ := p3 (by omega)
        obtain ⟨c1, c2⟩ := hcc wr hb k hlt
        have EN := HE.out k hlt
        have hsk := HS.out k
        have hbk := HB.out k hlt
        have HDk := Lib.hid (HD.out k hlt)
        generalize bs (denB (D k)) = eb at *
        generalize D k = d at *
        obtain ⟨nm, ino⟩ := d
        dsimp only at *
        have EN := Lib.hid EN
        have hbq := balloc hb (.cells #[.string nm, .int .i64 ino] 25)
        obtain ⟨y1, y2⟩ := (by have := Blk.new #[.string nm, .int .i64 ino] 25 wr; exact ⟨this.cell 0, this.cell 1⟩ : (wr.alloc (.cells #[.string nm, .int .i64 ino] 25)).cell? ⟨wr.heap.size, 0, none⟩ = some (.string nm) ∧ (wr.alloc (.cells #[.string nm, .int .i64 ino] 25)).cell? ⟨wr.heap.size, 1, none⟩ = some (.int .i64 ino))
        clear p3 hcc HE HD HF HZ H0 HS HB
        go_wp2_with fail
        refine (EN.out _).mono ?_; rintro e w2 ⟨rfl, b2⟩
        have hb2 := bnext hbq b2
        go_wp2
        exact ⟨⟨k + 1, by go_num, by rw [← HDk.out], by omega, hb2⟩, by simp [intOf]; omega⟩
      · obtain rfl : k = n := by omega
        have hz := HZ.out
        have hsk := HS.out k
        go_wp2_with fail
        try rw [hzi]
        refine (R.out _).mono ?_; rintro e w2 ⟨rfl, b2⟩
        go_wp2
        go_ret2
        exact ⟨by rw [← HF.out]; rfl, bnext hb b2⟩
  · rw [if_neg h]
    have t1 : (packE l == 0) = false := by rw [beq_eq_false_iff_ne]; exact h
    generalize packE l = E at *
    have F := Lib.hid F
    clear hv p3 h
    go_enter Try.func10, Try.ntmps10
    go_wp2_with fail
    refine F.out.mono ?_; rintro e w1 ⟨rfl, b1⟩
    go_wp2
    go_ret2
    exact ⟨rfl, b1⟩
end Go.Proofs.Ytogdogadejjmeaa
