/- Pack: the document's, walked. -/
import Derived.Test.YtogdogadejjmeaaERPack
namespace Go.Proofs.Ytogdogadejjmeaa
set_option linter.unusedVariables false
open Go.RowKit

theorem den_text (S : ByteArray) (d : Den) (h : d.name.size ≤ 32) : S ++ ⟨#[UInt8.ofNat d.name.size]⟩ ++ bs (leB 4 d.ino.toNat) ++ d.name = S ++ bs (denB d) := by
  have e : d.name = bs d.name.data.toList := (bs_of _).symm
  conv => lhs; rw [e]
  rw [ByteArray.append_assoc, ByteArray.append_assoc, bs_append]
  have e2 : (⟨#[UInt8.ofNat (bs d.name.data.toList).size]⟩ : ByteArray) = bs [UInt8.ofNat (bs d.name.data.toList).size] := rfl
  rw [e2, bs_append, bs_of]
  rfl
set_option maxRecDepth 100000 in
set_option maxHeartbeats 4000000 in
theorem rpack_any (l : List Den) (hl : l.length ≤ 100000) (hf : fitD l) (hu : used l ≤ 1000000000000) (v : Value) (w : World) (hv : DensIn v l w) :
    Calls Try.prog 11 #[v] w fun e w' => e = packRet l ∧ Below w.heap.size w w' := by
  have mixed : Try.prog.follows .mixedOrders = true := by kernel_rfl
  obtain ⟨ad, cap, rfl, p1, p2, p3, -⟩ := densIn_cells hv
  have H3 := Lib.hid p3
  have HN1 : Hid (∀ k, k < l.length → ¬ NameOk (dat l k).name → packRet l = .returned (.tuple #[.string ⟨#[]⟩, .int .i64 130])) := Lib.hid fun k hk h => by
    have hE : packE l = 130 := by unfold packE; rw [if_pos fun q => h (q _ (dat_mem hk))]
    unfold packRet packS; rw [if_neg (by omega), hE]
  have HN2 : Hid ((∀ k, k < l.length → NameOk (dat l k).name) → Names l) := Lib.hid fun h d hd => by
    obtain ⟨j, hj, rfl⟩ := List.getElem_of_mem hd
    rw [← dat_eq hj]; exact h j hj
  have HI1 : Hid (Names l → ∀ k, k < l.length → ¬ InoIn (dat l k).ino → packRet l = .returned (.tuple #[.string ⟨#[]⟩, .int .i64 2])) := Lib.hid fun hn k hk h => by
    have hE : packE l = 2 := by unfold packE; rw [if_neg (not_not_intro hn), if_pos fun q => h (q _ (dat_mem hk))]
    unfold packRet packS; rw [if_neg (by omega), hE]
  have HI2 : Hid ((∀ k, k < l.length → InoIn (dat l k).ino) → Inos l) := Lib.hid fun h d hd => by
    obtain ⟨j, hj, rfl⟩ := List.getElem_of_mem hd
    rw [← dat_eq hj]; exact h j hj
  have HES := Lib.hid (eS_is l l.length (Nat.le_refl _))
  rw [List.take_length] at HES
  have RN : Hid (∀ k, k < l.length → ∀ w, Calls Try.prog 27 #[.string (dat l k).name] w fun e w' => e = .returned (.bool (decide (NameOk (dat l k).name))) ∧ Below w.heap.size w w') := Lib.hid fun k hk w => rname_any _ (by have := (hf _ (dat_mem hk)).1; omega) w
  clear hv hf p3
  go_enter Try.func11, Try.ntmps11
  go_wp2
  go_loopw [6] (fun p wr => ∃ k : Nat, p = .int .i64 k ∧ k ≤ l.length ∧ Hid (∀ j, j < k → NameOk (dat l j).name) ∧ Below w.heap.size w wr) (fun p _ => l.length - (intOf p).toNat)
  case atStart => exact ⟨0, rfl, Nat.zero_le _, Lib.hid (fun j hj => by omega), Below.refl _ _⟩
  case round =>
    obtain ⟨k, rfl, hk, HK, hb⟩ := hrel
    by_cases hlt : k < l.length
    · obtain ⟨g, o, rfl, hg, hcc⟩ := H3.out (by omega)
      obtain ⟨c1, c2⟩ := hcc wr hb k hlt
      have R := RN.out k hlt
      have HKn : Hid (NameOk (dat l k).name → ∀ j, j < k + 1 → NameOk (dat l j).name) := Lib.hid fun h j hj => by
        by_cases e : j = k
        · subst e; exact h
        · exact HK.out j (by omega)
      have HNk := HN1.out k hlt
      by_cases hn : NameOk (dat l k).name
      · rw [decide_eq_true hn] at R
        have HK2 := Lib.hid (HKn.out hn)
        generalize dat l k = d at *
        have R := Lib.hid R
        clear hcc HKn HNk hn HK
        go_wp2_with fail
        refine (R.out _).mono ?_; rintro e w2 ⟨rfl, b2⟩
        have hb2 := bnext hb b2
        go_wp2
        exact ⟨⟨k + 1, by go_num, by omega, HK2, hb2⟩, by simp [intOf]; omega⟩
      · rw [decide_eq_false hn] at R
        have HR := Lib.hid (HNk hn)
        generalize dat l k = d at *
        have R := Lib.hid R
        clear hcc HKn HNk hn HK
        go_wp2_with fail
        refine (R.out _).mono ?_; rintro e w2 ⟨rfl, b2⟩
        have hb2 := bnext hb b2
        go_wp2
        go_ret2
        exact ⟨by rw [HR.out]; rfl, hb2⟩
    · obtain rfl : k = l.length := by omega
      have hN := HN2.out HK.out
      clear HK
      go_wp2
      go_loopw [4, 5, 7] (fun pe pu p wr => ∃ k : Nat, p = .int .i64 k ∧ pe = .int .i64 (eS l k) ∧ pu = .int .i64 (used (l.take k) : Int) ∧ k ≤ l.length ∧ Hid (∀ j, j < k → InoIn (dat l j).ino) ∧ Below w.heap.size w wr) (fun _ _ p _ => l.length - (intOf p).toNat)
      case atStart => exact ⟨0, rfl, rfl, rfl, Nat.zero_le _, Lib.hid (fun j hj => by omega), hb⟩
      case round =>
        clear hb
        obtain ⟨k, rfl, rfl, rfl, hk, HK, hb⟩ := hrel
        by_cases hlt : k < l.length
        · obtain ⟨g, o, rfl, hg, hcc⟩ := H3.out (by omega)
          obtain ⟨c1, c2⟩ := hcc wr hb k hlt
          have HKn : Hid (InoIn (dat l k).ino → ∀ j, j < k + 1 → InoIn (dat l j).ino) := Lib.hid fun h j hj => by
            by_cases e : j = k
            · subst e; exact h
            · exact HK.out j (by omega)
          have HNk := HI1.out hN k hlt
          by_cases hi0 : (dat l k).ino < 0
          · have HR := Lib.hid (HNk fun q => by have := q.1; omega)
            have t1 : decide ((dat l k).ino < 0) = true := decide_eq_true hi0
            clear hcc HKn HNk HK
            generalize dat l k = d at *
            go_wp2
            go_ret2
            exact ⟨by rw [HR.out]; rfl, hb⟩
          · have t1 : decide ((dat l k).ino < 0) = false := decide_eq_false hi0
            by_cases hi1 : 4294967295 < (dat l k).ino
            · have HR := Lib.hid (HNk fun q => by have := q.2; omega)
              have t2 : decide (4294967295 < (dat l k).ino) = true := decide_eq_true hi1
              clear hcc HKn HNk HK
              generalize dat l k = d at *
              go_wp2
              go_ret2
              exact ⟨by rw [HR.out]; rfl, hb⟩
            · have t2 : decide (4294967295 < (dat l k).ino) = false := decide_eq_false hi1
              have HK2 := Lib.hid (HKn.out ⟨by omega, by omega⟩)
              have HU := Lib.hid (used_take hlt)
              have hul := used_le_take l (k + 1)
              have hnk := hcc
              have HTS : Hid (∀ j, j < k → (dat l j).name = (dat l k).name → eT l (eS l k) k (j + 1) = 211) := Lib.hid fun j hj h => eT_same (by omega) h
              have HTO : Hid (∀ j, j < k → (dat l j).name ≠ (dat l k).name → eT l (eS l k) k (j + 1) = eT l (eS l k) k j) := Lib.hid fun j hj h => eT_other (by omega) h
              have HTE : Hid (eT l (eS l k) k k = eS l (k + 1)) := Lib.hid rfl
              have HT0 := eT_zero l (eS l k) k
              obtain ⟨ET, hET⟩ : ∃ ET : Nat → Int, ET = eT l (eS l k) k := ⟨_, rfl⟩
              rw [← hET] at HTS HTO HTE HT0
              have HT0 := Lib.hid HT0
              clear hET HKn HNk HK hi0 hi1
              go_wp2
              go_loopw [4, 8] (fun pe p wr2 => ∃ j : Nat, p = .int .i64 j ∧ pe = .int .i64 (ET j) ∧ j ≤ k ∧ Below w.heap.size w wr2) (fun _ p _ => k - (intOf p).toNat)
              case atStart => exact ⟨0, rfl, by rw [HT0.out], Nat.zero_le _, hb⟩
              case round =>
                clear hb c1 c2
                rename_i wr1
                obtain ⟨j, rfl, rfl, hj, hb⟩ := hrel
                by_cases hjk : j < k
                · have z0 := fun p : BelowP wr => (hcc p.to (hb.trans (p.h.mono hb.size)) j (by omega)).1
                  have z1 := fun p : BelowP wr => (hcc p.to (hb.trans (p.h.mono hb.size)) k hlt).1
                  have hA := HTS.out j hjk
                  have hB := HTO.out j hjk
                  by_cases he : (dat l j).name = (dat l k).name
                  · have HA := Lib.hid (hA he)
                    have t3 : ((dat l j).name.toList == (dat l k).name.toList) = true := by rw [str_beq]; exact decide_eq_true he
                    clear hA hB he hcc hnk
                    generalize (dat l j).name = na at *
                    generalize dat l k = d at *
                    go_wp2
                    refine wp_region_quiet_below mixed (by kernel_rfl) ?_
                    repeat (go_big_quiet_step (fail))
                    refine wpQuiet_nil ?_
                    intro w0q hw'
                    obtain ⟨⟨wq, bq⟩, hw''⟩ := hw'
                    have hw2 : wq = w0q := hw''.symm
                    clear hw''
                    subst hw2
                    have hbq := bnext hb bq
                    go_wp2
                    exact ⟨⟨j + 1, by go_num, by rw [HA.out], by omega, hbq⟩, by simp [intOf]; omega⟩
                  · have HB := Lib.hid (hB he)
                    have t3 : ((dat l j).name.toList == (dat l k).name.toList) = false := by rw [str_beq]; exact decide_eq_false he
                    clear hA hB he hcc hnk
                    generalize (dat l j).name = na at *
                    generalize dat l k = d at *
                    go_wp2
                    refine wp_region_quiet_below mixed (by kernel_rfl) ?_
                    repeat (go_big_quiet_step (fail))
                    refine wpQuiet_nil ?_
                    intro w0q hw'
                    obtain ⟨⟨wq, bq⟩, hw''⟩ := hw'
                    have hw2 : wq = w0q := hw''.symm
                    clear hw''
                    subst hw2
                    have hbq := bnext hb bq
                    go_wp2
                    exact ⟨⟨j + 1, by go_num, by rw [HB.out], by omega, hbq⟩, by simp [intOf]; omega⟩
                · obtain rfl : j = k := by omega
                  obtain ⟨c1, c2⟩ := hcc wr hb j hlt
                  have hz : (used (l.take j) : Int) + 5 + ((dat l j).name.size : Int) = (used (l.take (j + 1)) : Int) := by have := HU.out; omega
                  have HZZ := Lib.hid hz
                  generalize hu1 : used (l.take (j + 1)) = u1 at *
                  generalize hu0 : used (l.take j) = u0 at *
                  have hnz : ((dat l j).name.size : Int) ≤ 1000000000000 := by omega
                  generalize dat l j = d at *
                  clear hcc hnk HTS HTO HU HT0
                  go_wp2
                  exact ⟨⟨j + 1, by go_num, by rw [HTE.out], by rw [hu1, ← HZZ.out], by omega, HK2, hb⟩, by simp [intOf]; omega⟩
        · obtain rfl : k = l.length := by omega
          have hI := HI2.out HK.out
          clear HK
          rw [List.take_length]
          by_cases hA : Apart l
          · have e0 : eS l l.length = 0 := by rw [HES.out, if_pos hA]
            rw [e0]
            by_cases hbig : 128 < used l
            · have HR : Hid (packRet l = .returned (.tuple #[.string ⟨#[]⟩, .int .i64 120])) := Lib.hid (by
                have hE : packE l = 120 := by unfold packE; rw [if_neg (not_not_intro hN), if_neg (not_not_intro hI), if_neg (not_not_intro hA), if_pos hbig]
                unfold packRet packS; rw [if_neg (by omega), hE])
              have t1 : decide ((128 : Int) < (used l : Int)) = true := decide_eq_true (by omega)
              go_wp2
              go_ret2
              exact ⟨by rw [HR.out]; rfl, hb⟩
            · have t1 : decide ((128 : Int) < (used l : Int)) = false := decide_eq_false (by omega)
              have hok : ListOk l := ⟨hN, hI, hA, by omega⟩
              have hE := (packE_zero l).2 hok
              have HD : Hid (∀ k, k < l.length → bs (densB (l.take k)) ++ ⟨#[UInt8.ofNat (dat l k).name.size]⟩ ++ bs (leB 4 (dat l k).ino.toNat) ++ (dat l k).name = bs (densB (l.take (k + 1)))) := Lib.hid fun k hk => by
                rw [den_text _ _ (hok.1 _ (dat_mem hk)).1.2]; exact densB_take hk
              have HF : Hid (bs (densB (l.take l.length)) ++ bs (zeroL (128 - used l)) = pack l) := Lib.hid (by rw [List.take_length, bs_append]; rfl)
              have HZ : Hid ((bs (densB (l.take l.length))).size = used l) := Lib.hid (by rw [List.take_length, bs_size, densB_length])
              have H0 : Hid (bs (densB (l.take 0)) = ⟨#[]⟩) := Lib.hid rfl
              have HS : Hid (∀ k, (bs (densB (l.take k))).size ≤ 128) := Lib.hid fun k => by rw [bs_size, densB_length]; have := used_le_take l k; omega
              have HB : Hid (∀ k, k < l.length → (dat l k).name.size ≤ 32 ∧ InoIn (dat l k).ino) := Lib.hid fun k hk => ⟨(hok.1 _ (dat_mem hk)).1.2, hok.2.1 _ (dat_mem hk)⟩
              have HP : Hid (packRet l = .returned (.tuple #[.string (pack l), .int .i64 0])) := Lib.hid (by unfold packRet packS; rw [if_pos hE, hE])
              have hzz : (bs (zeroL (128 - used l))).size = 128 - used l := by rw [bs_size, zeroL_length]
              have hzi : (128 : Int) - (used l : Int) = ((128 - used l : Nat) : Int) := by omega
              have hm := fun w => kz_made (128 - used l) (by omega) w
              have hbk := fun w => kz_back w (128 - used l)
              clear hok hE hN hI hA HN1 HN2 HI1 HI2 HES RN
              generalize pack l = PK at *
              generalize bs (zeroL (128 - used l)) = ZB at *
              generalize used l = U at *
              obtain ⟨S, hS⟩ : ∃ S : Nat → ByteArray, S = fun k => bs (densB (l.take k)) := ⟨_, rfl⟩
              have hS2 : ∀ k, bs (densB (l.take k)) = S k := fun k => by rw [hS]
              simp only [hS2] at HD HF HZ H0 HS
              clear hS hS2
              go_wp2
              go_loopw [9, 10] (fun p q wr => ∃ k : Nat, q = .int .i64 k ∧ p = .string (S k) ∧ k ≤ l.length ∧ Below w.heap.size w wr) (fun _ q _ => l.length - (intOf q).toNat)
              case atStart => exact ⟨0, rfl, by rw [H0.out], Nat.zero_le _, hb⟩
              case round =>
                obtain ⟨k, rfl, rfl, hk, hb⟩ := hrel
                by_cases hlt : k < l.length
                · obtain ⟨g, o, rfl, hg, hcc⟩ := H3.out (by omega)
                  obtain ⟨c1, c2⟩ := hcc wr hb k hlt
                  have HDk := HD.out k hlt
                  obtain ⟨hb1, hb2⟩ := HB.out k hlt
                  have hsk := HS.out k
                  have hcell := fun w' hb' => hcc w' hb' k hlt
                  obtain ⟨mm, hmm⟩ := Int.eq_ofNat_of_zero_le hb2.1
                  have hmm2 : mm < 4294967296 := by have := hb2.2; omega
                  rw [hmm] at HDk c2
                  rw [hmm] at hcell
                  rw [Int.toNat_natCast] at HDk
                  have PI := Lib.hid (rput_four mm hmm2)
                  have hz4 : (bs (leB 4 mm)).size = 4 := by rw [bs_size, leB_length]
                  generalize bs (leB 4 mm) = IB at *
                  generalize (dat l k).name = nm at *
                  have HDk := Lib.hid HDk
                  have hnm : ((nm.size : Int)) % 256 = (nm.size : Int) := by omega
                  generalize putIntOk 4 0 4 mm = ok at *
                  go_wp2_with fail
                  refine (PI.out _).mono ?_; rintro e w2 ⟨rfl, b2⟩
                  have hbw2 := bnext hb b2
                  have hz2 := hbw2.size
                  have d0 : w2.cell? ⟨g, o + k * 2, none⟩ = some (.string nm) := (hcell w2 hbw2).1
                  have d2 : w2.drew.cell? ⟨g, o + k * 2, none⟩ = some (.string nm) := d0
                  have d1 : ∀ C, (w2.alloc (.cells C 5)).drew.cell? ⟨g, o + k * 2, none⟩ = some (.string nm) := fun C => (hcell _ (balloc hbw2 (.cells C 5)).drew).1
                  have d3 : ∀ C, (w2.alloc (.cells C 5)).cell? ⟨g, o + k * 2, none⟩ = some (.string nm) := fun C => (hcell _ (balloc hbw2 (.cells C 5))).1
                  have o1 : (convert 43 9 (.slice (some ⟨w2.heap.size, 0, none⟩) 1 1)).run Try.prog ((w2.alloc (.cells #[.int .u8 (nm.size : Int)] 5)).drew) = .ok (.string ⟨#[UInt8.ofNat nm.size]⟩) ((w2.alloc (.cells #[.int .u8 (nm.size : Int)] 5)).drew) := by
                    have := one_back w2.drew nm.size
                    rw [hnm] at this
                    exact this
                  clear c1 c2 hcell hcc
                  go_wp2
                  go_region
                  go_wp2
                  exact ⟨⟨k + 1, by go_num, by rw [← HDk.out], by omega, hbw2.drew.alloc hz2 _⟩, by simp [intOf]; omega⟩
                · obtain rfl : k = l.length := by omega
                  have hz := HZ.out
                  have hsk := HS.out l.length
                  go_wp2
                  go_ret2
                  exact ⟨by rw [HP.out, ← HF.out]; rfl, balloc hb _⟩
          · have e0 : eS l l.length = 211 := by rw [HES.out, if_neg hA]
            rw [e0]
            have HR : Hid (packRet l = .returned (.tuple #[.string ⟨#[]⟩, .int .i64 211])) := Lib.hid (by
              have hE : packE l = 211 := by unfold packE; rw [if_neg (not_not_intro hN), if_neg (not_not_intro hI), if_pos hA]
              unfold packRet packS; rw [if_neg (by omega), hE])
            go_wp2
            go_ret2
            exact ⟨by rw [HR.out]; rfl, hb⟩
end Go.Proofs.Ytogdogadejjmeaa
