/- The walk of SupersSpoilt. -/
import Derived.Test.YtonfloehobcfbaaUSame
import Derived.Deep.Cut
import Derived.Laws.Bits64b
namespace Go.Proofs.Ytonfloehobcfbaa
set_option linter.unusedVariables false
open Go.RowKit

theorem uofInt8 (a : Nat) (ha : a < 256) : (BitVec.ofInt 8 (a : Int)).toNat = a := by
  rw [BitVec.ofInt_natCast, BitVec.toNat_ofNat]; exact Nat.mod_eq_of_lt (by omega)
theorem uwrap8 (a : Nat) (ha : a < 256) : IntKind.u8.wrap (a : Int) = a := by
  simp [IntKind.wrap, IntKind.bits, IntKind.signed]; omega
theorem uxor8 (a b : Nat) (ha : a < 256) (hb : b < 256) : bits .xor .u8 (a : Int) (b : Int) = ((a ^^^ b : Nat) : Int) := by
  show IntKind.u8.wrap ((BitVec.ofInt 8 (a : Int) ^^^ BitVec.ofInt 8 (b : Int)).toNat : Int) = _
  rw [BitVec.toNat_xor, uofInt8 a ha, uofInt8 b hb]
  exact uwrap8 _ (Nat.xor_lt_two_pow (n := 8) ha hb)
theorem xor_lt (a b : Nat) (ha : a < 256) (hb : b < 256) : a ^^^ b < 256 := Nat.xor_lt_two_pow (n := 8) ha hb
/-- the byte at i, turned by n -/
def turnB (s : Sup) (i n : Nat) : UInt8 := UInt8.ofNat (((supL s)[i]?.getD 0).toNat ^^^ n)
theorem turnB_nat (s : Sup) (i n : Nat) (hn : n < 256) : (turnB s i n).toNat = ((supL s)[i]?.getD 0).toNat ^^^ n := by
  unfold turnB
  have := xor_lt ((supL s)[i]?.getD 0).toNat n (UInt8.toNat_lt _) hn
  rw [UInt8.toNat_ofNat']
  exact Nat.mod_eq_of_lt this
theorem turnB_zero (s : Sup) (i : Nat) (hi : i < 128) : (supL s)[i]? = some (turnB s i 0) := by
  have hl : i < (supL s).length := by rw [supL_length]; exact hi
  rw [List.getElem?_eq_getElem hl]
  congr 1
  unfold turnB
  rw [List.getElem?_eq_getElem hl]
  simp
theorem turnB_other (s : Sup) (i n : Nat) (hi : i < 128) (hn : n < 256) (h0 : n ≠ 0) : (supL s)[i]? ≠ some (turnB s i n) := by
  have hl : i < (supL s).length := by rw [supL_length]; exact hi
  intro h
  have h2 := turnB_nat s i n hn
  rw [h] at h2
  simp only [Option.getD_some] at h2
  apply h0
  have h3 : (turnB s i n).toNat ^^^ (turnB s i n).toNat = (turnB s i n).toNat ^^^ ((turnB s i n).toNat ^^^ n) := congrArg (fun x => (turnB s i n).toNat ^^^ x) h2
  rw [Nat.xor_self, ← Nat.xor_assoc, Nat.xor_self, Nat.zero_xor] at h3
  exact h3.symm
theorem spoil_list (s : Sup) (i : Nat) (c : UInt8) : (spoil s i c).data.toList = (supL s).set i c := bs_list _
theorem spoil_size (s : Sup) (i : Nat) (c : UInt8) : (spoil s i c).size = 128 := by unfold spoil; rw [bs_size, List.length_set, supL_length]
set_option maxRecDepth 100000 in
set_option maxHeartbeats 4000000 in
theorem uspoilt_no (s : Sup) (h : ¬ SupOk s) (at_ by_ : Nat) (ha : at_ < 256) (hy : by_ < 256) (w : World) :
    Calls Try.prog 9 #[supV s, .int .u8 (at_ : Int), .int .u8 (by_ : Int)] w fun e w' => e = .returned (.bool true) ∧ Below w.heap.size w w' := by
  have AL := Lib.hid ualive_any
  have E := Lib.hid (fun w => uenc_no s h w)
  have hb0 := balloc1 w (.cells (supC s) 23)
  clear h
  go_enter Try.func9, Try.ntmps9
  go_wp2_with fail
  refine (E.out _).mono ?_; rintro e w6 ⟨rfl, b6⟩
  have hb6 := bnext hb0 b6
  go_wp2_with fail
  refine (AL.out _).mono ?_; rintro e w9 ⟨rfl, b9⟩
  go_wp2
  go_ret
  exact ⟨rfl, bnext hb6 b9⟩
set_option maxRecDepth 100000 in
set_option maxHeartbeats 8000000 in
theorem uspoilt_yes (s : Sup) (h : SupOk s) (at_ by_ : Nat) (ha : at_ < 256) (hy : by_ < 256) (w : World) :
    Calls Try.prog 9 #[supV s, .int .u8 (at_ : Int), .int .u8 (by_ : Int)] w fun e w' => e = .returned (.bool true) ∧ Below w.heap.size w w' := by
  have AL := Lib.hid ualive_any
  have gh : Try.prog.stoodInHeld 23 = false := by kernel_rfl
  have E := Lib.hid (fun w => uenc_yes s h w)
  have hb0 := balloc1 w (.cells (supC s) 23)
  have hS0 : SupAt w.heap.size s (w.alloc (.cells (supC s) 23)) := Blk.new _ _ _
  obtain ⟨j, hj, hj2⟩ : ∃ j : Nat, (at_ : Int) % 128 = (j : Int) ∧ j < 128 := ⟨at_ % 128, by omega, by omega⟩
  have zs := sup_size s
  have MB := Lib.hid (fun w => bytes_made (sup s) w)
  have HX : Hid (bits .xor .u8 ((((supL s)[j]?.getD 0).toNat : Nat) : Int) (by_ : Int) = ((turnB s j by_).toNat : Int)) := Lib.hid (by rw [uxor8 _ _ (UInt8.toNat_lt _) hy, turnB_nat s j by_ hy])
  go_enter Try.func9, Try.ntmps9
  go_wp2_with fail
  refine (E.out _).mono ?_; rintro e w1 ⟨rfl, b1⟩
  have hS1 := hS0.kept1 b1
  have hb1 := bnext hb0 b1
  obtain ⟨cap, lo, C, hconv, hlo, hC⟩ := MB.out w1
  rw [zs] at hconv hlo
  have HC : Hid (∀ i, i < 128 → (w1.alloc (.cells C 5 (lo, lo + 1))).drew.cell? ⟨w1.heap.size, i, none⟩ = some (.int .u8 ((((supL s)[i]?.getD 0).toNat : Nat) : Int)) ∧ (w1.alloc (.cells C 5 (lo, lo + 1))).drew.frozen? ⟨w1.heap.size, i, none⟩ = false) := Lib.hid fun i hi => by
    refine ⟨?_, ?_⟩
    · show (w1.alloc (.cells C 5 (lo, lo + 1))).cell? _ = _
      rw [World.cell?_alloc_mark, hC i (by rw [zs]; exact hi)]
      have e1 : (sup s).data.toList = supL s := sup_list s
      simp only [e1]
      rw [List.getElem?_eq_getElem (by rw [supL_length]; exact hi), Option.getD_some]
    · show (w1.alloc (.cells C 5 (lo, lo + 1))).frozen? _ = _
      rw [World.frozen?_alloc_mark]; simp; omega
  have b12 : Below w1.heap.size w1 (w1.alloc (.cells C 5 (lo, lo + 1))).drew := (balloc1 _ _).drew
  have hz2 : w1.heap.size < (w1.alloc (.cells C 5 (lo, lo + 1))).drew.heap.size := by show w1.heap.size < (w1.alloc _).heap.size; rw [size_alloc]; omega
  generalize (w1.alloc (.cells C 5 (lo, lo + 1))).drew = w2 at *
  have hS2 := hS1.kept1 b12
  have hb2 := bnext hb1 b12
  obtain ⟨q1, q2⟩ := HC.out j hj2
  have q3 := HX.out
  have hS4 : SupAt w.heap.size s (w2.setCell ⟨w1.heap.size, j, none⟩ (.int .u8 ((turnB s j by_).toNat : Int))) := hS2.other (by show w1.heap.size ≠ _; have := hS1.lt; omega) _
  have hb4 : Below w.heap.size w (w2.setCell ⟨w1.heap.size, j, none⟩ (.int .u8 ((turnB s j by_).toNat : Int))) := hb2.setCell hb1.size _
  have hback0 := run_convert_bytes_back (P := Try.prog) (w2.setCell ⟨w1.heap.size, j, none⟩ (.int .u8 ((turnB s j by_).toNat : Int))) 53 9 5 ⟨w1.heap.size, 0, none⟩ cap ((supL s).set j (turnB s j by_)) Try.underlying53 Try.underlying5 Try.underlying9 (fun i hi => by
    have hi2 : i < 128 := by rw [List.length_set, supL_length] at hi; exact hi
    rw [plain_add, Nat.zero_add]
    by_cases e : i = j
    · subst e
      rw [World.cell?_setCell_same _ _ _ q1, List.getElem_set_self]
    · rw [World.cell?_setCell_other _ _ _ _ (by intro q; apply e; have := congrArg Addr.off q; simpa using this.symm), (HC.out i hi2).1, List.getElem_set_ne (fun q => e q.symm), List.getElem?_eq_getElem (by rw [supL_length]; exact hi2)]; rfl)
  rw [List.length_set, supL_length] at hback0
  have hback : (convert 53 9 (.slice (some ⟨w1.heap.size, 0, none⟩) 128 cap)).run Try.prog (w2.setCell ⟨w1.heap.size, j, none⟩ (.int .u8 ((turnB s j by_).toNat : Int))) = .ok (.string (spoil s j (turnB s j by_))) (w2.setCell ⟨w1.heap.size, j, none⟩ (.int .u8 ((turnB s j by_).toNat : Int))) := hback0
  clear hback0
  have hmx : (spoil s j (turnB s j by_)).size ≤ maxLen := by rw [spoil_size]; unfold maxLen; omega
  go_upto_region 6 with fail
  generalize w2.setCell ⟨w1.heap.size, j, none⟩ (.int .u8 ((turnB s j by_).toNat : Int)) = w4 at *
  clear HC MB HX hC hlo hz2 b12 hS2 hb2 hb1 hS1 b1 hS0 hb0 E q1 q2 q3 hconv
  by_cases h0 : by_ = 0
  · have e : spoil s j (turnB s j by_) = sup s := by rw [h0]; exact spoil_same s j _ (turnB_zero s j hj2)
    have D := fun w => udec_yes (sup s) (by rw [zs]; unfold maxLen; omega) (isSup_of h) w
    rw [read_sup h] at D
    rw [e] at hback
    have t0 : ((by_ : Int) == 0) = true := by rw [beq_iff_eq]; omega
    have D := Lib.hid D
    clear e hmx h
    generalize sup s = T at *
    obtain ⟨y0, y1, y2, y3, y4, y5, y6, y7, y8, y9⟩ := s
    go_wp2_with fail
    refine (D.out _).mono ?_; rintro e w5 ⟨rfl, b5⟩
    have hS5 := hS4.kept1 b5
    have hb5 := bnext hb4 b5
    clear hS4 hb4 b5 hback
    obtain ⟨w6, hw6⟩ : ∃ w6, w5.alloc (.cells #[.int .i64 y0, .int .i64 y1, .int .i64 y2, .int .i64 y3, .int .i64 y4, .int .i64 y5, .int .i64 y6, .int .i64 y7, .int .i64 y8, .int .i64 y9] 23) = w6 := ⟨_, rfl⟩
    have hT6 : SupAt w5.heap.size ⟨y0, y1, y2, y3, y4, y5, y6, y7, y8, y9⟩ w6 := by rw [← hw6]; exact Blk.new _ _ _
    have hS6 := hS5.kept1 (show Below w5.heap.size w5 w6 by rw [← hw6]; exact balloc1 _ _)
    have hb6 : Below w.heap.size w w6 := by rw [← hw6]; exact balloc hb5 _
    have HW6 := Lib.hid hw6
    clear hw6 hS5 hb5
    go_upto_region 7 with fail
    try rw [HW6.out]
    clear HW6
    obtain ⟨c0, c1, c2, c3, c4, c5, c6, c7, c8, c9⟩ := SupAt.cells hS6
    obtain ⟨d0, d1, d2, d3, d4, d5, d6, d7, d8, d9⟩ := SupAt.cells hT6
    clear hS6 hT6
    go_wp2_with fail
    refine (AL.out _).mono ?_; rintro e w9 ⟨rfl, b9⟩
    go_wp2
    go_ret
    exact ⟨rfl, bnext hb6 b9⟩
  · have hne := turnB_other s j by_ hj2 hy h0
    have t0 : ((by_ : Int) == 0) = false := by rw [beq_eq_false_iff_ne]; omega
    by_cases hin : j < 8 ∨ 48 ≤ j
    · have D : Hid (∀ w, Calls Try.prog 15 #[.string (spoil s j (turnB s j by_))] w fun e w' => e = .returned (.tuple #[.agg #[.int .i64 0, .int .i64 0, .int .i64 0, .int .i64 0, .int .i64 0, .int .i64 0, .int .i64 0, .int .i64 0, .int .i64 0, .int .i64 0], .int .i64 80]) ∧ Below w.heap.size w w') := Lib.hid (fun w => udec_no (spoil s j (turnB s j by_)) hmx (spoil_none hj2 hin hne) w)
      clear hmx h hne
      generalize spoil s j (turnB s j by_) = X at *
      generalize sup s = T at *
      by_cases h8 : j < 8
      · have t1 : decide ((j : Int) < 8) = true := decide_eq_true (by omega)
        go_wp2_with fail
        refine (D.out _).mono ?_; rintro e w5 ⟨rfl, b5⟩
        have hb6 := balloc (bnext hb4 b5) (.cells #[.int .i64 0, .int .i64 0, .int .i64 0, .int .i64 0, .int .i64 0, .int .i64 0, .int .i64 0, .int .i64 0, .int .i64 0, .int .i64 0] 23)
        clear hS4 hb4 b5 hback
        go_wp2_with fail
        refine (AL.out _).mono ?_; rintro e w9 ⟨rfl, b9⟩
        go_wp2
        go_ret
        exact ⟨rfl, bnext hb6 b9⟩
      · have t1 : decide ((j : Int) < 8) = false := decide_eq_false (by omega)
        have t2 : decide ((48 : Int) ≤ (j : Int)) = true := decide_eq_true (by omega)
        go_wp2_with fail
        refine (D.out _).mono ?_; rintro e w5 ⟨rfl, b5⟩
        have hb6 := balloc (bnext hb4 b5) (.cells #[.int .i64 0, .int .i64 0, .int .i64 0, .int .i64 0, .int .i64 0, .int .i64 0, .int .i64 0, .int .i64 0, .int .i64 0, .int .i64 0] 23)
        clear hS4 hb4 b5 hback
        go_wp2_with fail
        refine (AL.out _).mono ?_; rintro e w9 ⟨rfl, b9⟩
        go_wp2
        go_ret
        exact ⟨rfl, bnext hb6 b9⟩
    · have t1 : decide ((j : Int) < 8) = false := decide_eq_false (by omega)
      have t2 : decide ((48 : Int) ≤ (j : Int)) = false := decide_eq_false (by omega)
      by_cases hk : IsSup (spoil s j (turnB s j by_))
      · have D := fun w => udec_yes _ hmx hk w
        have CK := fun w => check_any (readS (spoil s j (turnB s j by_))) w
        rw [decide_eq_true hk.1] at CK
        have SE := fun w => run_sup_eq (readS (spoil s j (turnB s j by_))) s w
        rw [decide_eq_false (spoil_other hj2 hne hk)] at SE
        have D := Lib.hid D
        have CK := Lib.hid CK
        clear hmx h hne hk hin
        generalize readS (spoil s j (turnB s j by_)) = Y at *
        generalize spoil s j (turnB s j by_) = X at *
        generalize sup s = T at *
        obtain ⟨y0, y1, y2, y3, y4, y5, y6, y7, y8, y9⟩ := Y
        go_wp2_with fail
        refine (D.out _).mono ?_; rintro e w5 ⟨rfl, b5⟩
        have hS5 := hS4.kept1 b5
        have hb5 := bnext hb4 b5
        clear hS4 hb4 b5 hback
        obtain ⟨w6, hw6⟩ : ∃ w6, w5.alloc (.cells #[.int .i64 y0, .int .i64 y1, .int .i64 y2, .int .i64 y3, .int .i64 y4, .int .i64 y5, .int .i64 y6, .int .i64 y7, .int .i64 y8, .int .i64 y9] 23) = w6 := ⟨_, rfl⟩
        have hT6 : SupAt w5.heap.size ⟨y0, y1, y2, y3, y4, y5, y6, y7, y8, y9⟩ w6 := by rw [← hw6]; exact Blk.new _ _ _
        have hS6 := hS5.kept1 (show Below w5.heap.size w5 w6 by rw [← hw6]; exact balloc1 _ _)
        have hb6 : Below w.heap.size w w6 := by rw [← hw6]; exact balloc hb5 _
        have HW6 := Lib.hid hw6
        clear hw6 hS5 hb5
        go_upto_region 7 with fail
        try rw [HW6.out]
        clear HW6
        obtain ⟨c0, c1, c2, c3, c4, c5, c6, c7, c8, c9⟩ := SupAt.cells hS6
        obtain ⟨d0, d1, d2, d3, d4, d5, d6, d7, d8, d9⟩ := SupAt.cells hT6
        clear hS6 hT6
        go_wp2_with fail
        refine (CK.out _).mono ?_; rintro e w7 ⟨rfl, b7⟩
        have hb7 := bnext hb6 b7
        clear hb6 b7
        have hb6 := hb7
        clear hb7
        go_wp2_with fail
        refine (AL.out _).mono ?_; rintro e w9 ⟨rfl, b9⟩
        go_wp2
        go_ret
        exact ⟨rfl, bnext hb6 b9⟩
      · have D : Hid (∀ w, Calls Try.prog 15 #[.string (spoil s j (turnB s j by_))] w fun e w' => e = .returned (.tuple #[.agg #[.int .i64 0, .int .i64 0, .int .i64 0, .int .i64 0, .int .i64 0, .int .i64 0, .int .i64 0, .int .i64 0, .int .i64 0, .int .i64 0], .int .i64 80]) ∧ Below w.heap.size w w') := Lib.hid (fun w => udec_no (spoil s j (turnB s j by_)) hmx hk w)
        clear hmx h hne hk hin
        generalize spoil s j (turnB s j by_) = X at *
        generalize sup s = T at *
        go_wp2_with fail
        refine (D.out _).mono ?_; rintro e w5 ⟨rfl, b5⟩
        have hb6 := balloc (bnext hb4 b5) (.cells #[.int .i64 0, .int .i64 0, .int .i64 0, .int .i64 0, .int .i64 0, .int .i64 0, .int .i64 0, .int .i64 0, .int .i64 0, .int .i64 0] 23)
        clear hS4 hb4 b5 hback
        go_wp2_with fail
        refine (AL.out _).mono ?_; rintro e w9 ⟨rfl, b9⟩
        go_wp2
        go_ret
        exact ⟨rfl, bnext hb6 b9⟩
theorem uspoilt_walk (s : Sup) (at_ by_ : Nat) (ha : at_ < 256) (hy : by_ < 256) (w : World) :
    Calls Try.prog 9 #[supV s, .int .u8 (at_ : Int), .int .u8 (by_ : Int)] w fun e w' => e = .returned (.bool true) ∧ Below w.heap.size w w' := by
  by_cases h : SupOk s
  · exact uspoilt_yes s h at_ by_ ha hy w
  · exact uspoilt_no s h at_ by_ ha hy w
end Go.Proofs.Ytonfloehobcfbaa
