/- The chapter's examples. -/
import Derived.Test.YtogdogadejjmeaaEChange
import Derived.Test.YtogdogadejjmeaaESame
import Derived.Test.YtogdogadejjmeaaKZero
namespace Go.Proofs.Ytogdogadejjmeaa
set_option linter.unusedVariables false
open Go.RowKit

theorem ext_listE (s : ByteArray) (a b : Nat) : (s.extract a b).toList = (s.data.toList.drop a).take (b - a) := by
  rw [Lib.extract_eq, ByteArray.toList_eq]
/-- entries that a literal has just laid -/
theorem lit_inD (W : World) (l : List Den) (cs : Array Value) (hl : l.length ≤ 4000) (hc : cs.toList = cellsD l) : DensIn (.slice (some ⟨W.heap.size, 0, none⟩) l.length l.length) l (W.alloc (.cells cs 25)) := by
  refine ⟨cellsD_length l, some ⟨W.heap.size, 0, none⟩, l.length, rfl, Nat.le_refl _, by unfold maxLen; omega, fun _ => ⟨W.heap.size, 0, rfl, by rw [size_alloc]; omega, fun k u hk => ?_⟩, fun h => by cases h⟩
  rw [Nat.zero_add, World.cell?_alloc_mark]
  rw [← hc] at hk
  simpa using hk
theorem dens_nil (w : World) : DensIn (.slice none 0 0) [] w := RowIn.nil 2 w
def exL : List Den := [⟨⟨#[97]⟩, 5⟩, ⟨⟨#[98, 99]⟩, 258⟩]
theorem exL_ok : ListOk exL := by decide
theorem exL_dir : IsDir (pack exL) := ⟨exL, exL_ok, rfl⟩
theorem exL_list : listP (pack exL) = exL := by rw [listP_yes exL_dir, listOf_pack exL_ok]
theorem ezeros : pack [] = bs (zeroL 128) := rfl
theorem zero_dir : IsDir (bs (zeroL 128)) := ⟨[], nil_ok, ezeros⟩
theorem zero_list : listP (bs (zeroL 128)) = [] := by rw [listP_yes zero_dir, ← ezeros, listOf_pack nil_ok]
theorem pack_yes {l : List Den} (h : ListOk l) (v : Value) (w : World) (hv : DensIn v l w) :
    Calls Try.prog 10 #[v] w fun e w' => e = .returned (.tuple #[.string (pack l), .int .i64 0]) ∧ Below w.heap.size w w' := by
  obtain ⟨f1, f2, f3⟩ := listOk_fit h
  have hE := (packE_zero _).2 h
  have := pack_any l (by omega) f1 (by omega) v w hv
  unfold packRet packS at this
  rwa [if_pos hE, hE] at this
set_option maxRecDepth 100000 in
set_option maxHeartbeats 4000000 in
theorem ealive_any (w : World) :
    Calls Try.prog 13 #[] w fun e w' => e = .returned (.bool true) ∧ Below w.heap.size w w' := by
  obtain ⟨w1, hw1⟩ : ∃ w1, w.alloc (.cells #[.string ⟨#[97]⟩, .int .i64 5, .string ⟨#[98, 99]⟩, .int .i64 258] 25) = w1 := ⟨_, rfl⟩
  have hE1 : DensIn (.slice (some ⟨w.heap.size, 0, none⟩) 2 2) exL w1 := by rw [← hw1]; exact lit_inD w exL _ (by decide) rfl
  have hb1 : Below w.heap.size w w1 := by rw [← hw1]; exact balloc1 _ _
  obtain ⟨S, T, E1, F1, F2, R1, I1, O1, hz, hzt, h14, ht0⟩ : ∃ S T : ByteArray,
      Hid (∀ v w, DensIn v exL w → Calls Try.prog 10 #[v] w fun e w' => e = .returned (.tuple #[.string S, .int .i64 0]) ∧ Below w.heap.size w w') ∧
      Hid (∀ w, Calls Try.prog 16 #[.string S, .string ⟨#[98, 99]⟩] w fun e w' => e = .returned (.tuple #[.int .i64 258, .bool true]) ∧ Below w.heap.size w w') ∧
      Hid (∀ w, Calls Try.prog 16 #[.string S, .string ⟨#[98]⟩] w fun e w' => e = .returned (.tuple #[.int .i64 0, .bool false]) ∧ Below w.heap.size w w') ∧
      Hid (∀ w, Calls Try.prog 22 #[.string S, .string ⟨#[97]⟩] w fun e w' => e = .returned (.tuple #[.string T, .bool true]) ∧ Below w.heap.size w w') ∧
      Hid (∀ w, Calls Try.prog 20 #[.string S, .agg #[.string ⟨#[97]⟩, .int .i64 9]] w fun e w' => e = .returned (.tuple #[.string ⟨#[]⟩, .int .i64 211]) ∧ Below w.heap.size w w') ∧
      Hid (∀ w, Calls Try.prog 18 #[.string S] w fun e w' => e = .returned (.int .i64 115) ∧ Below w.heap.size w w') ∧
      S.size = 128 ∧ T.size = 128 ∧ ((S.extract 0 14).toList == [1, 5, 0, 0, 0, 97, 2, 2, 1, 0, 0, 98, 99, 0]) = true ∧ ∀ h : 0 < T.size, T[0]'h = 2 := by
    have hs : (pack exL).size ≤ 2000 := by rw [pack_size (by decide)]; omega
    refine ⟨pack exL, pack (dropD exL ⟨#[97]⟩), Lib.hid fun v w hv => pack_yes exL_ok v w hv, Lib.hid fun w => ?_, Lib.hid fun w => ?_, Lib.hid fun w => ?_, Lib.hid fun w => ?_, Lib.hid fun w => ?_, pack_size (by decide), pack_size (by decide), ?_, fun h => rfl⟩
    · have := find_any (pack exL) hs ⟨#[98, 99]⟩ w
      unfold findN at this
      rw [exL_list, show findD exL ⟨#[98, 99]⟩ = some 258 by decide] at this
      exact this
    · have := find_any (pack exL) hs ⟨#[98]⟩ w
      unfold findN at this
      rw [exL_list, show findD exL ⟨#[98]⟩ = none by decide] at this
      exact this
    · have := remove_any (pack exL) hs ⟨#[97]⟩ w
      unfold remS at this
      rw [exL_list, if_pos (by decide), decide_eq_true (by decide)] at this
      exact this
    · have := insert_any (pack exL) hs ⟨⟨#[97]⟩, 9⟩ (by decide) (by decide) w
      unfold insS insR packS at this
      rw [if_pos exL_dir, if_pos exL_dir, ← listP_yes exL_dir, exL_list, show packE (exL ++ [⟨⟨#[97]⟩, 9⟩]) = 211 by decide] at this
      exact this
    · have := room_any (pack exL) hs w
      unfold roomP at this
      rw [if_pos exL_dir, ← listP_yes exL_dir, exL_list, show (128 : Int) - (used exL : Int) = 115 by decide] at this
      exact this
    · rw [ext_listE, pack_list]; rfl
  have P1 : Hid (∀ w, Calls Try.prog 14 #[.string (bs (zeroL 128))] w fun e w' => ∃ v, e = .returned (.tuple #[v, .int .i64 0]) ∧ DensAt w.heap.size v [] w' ∧ Below w.heap.size w w') := Lib.hid fun w => by
    have := parse_any (bs (zeroL 128)) (by rw [bs_size, zeroL_length]; omega) w
    rw [errP_yes zero_dir, zero_list] at this
    exact this
  have hm : ∀ w, (Instr.makeSlice 43 (.int .i64 128) (.int .i64 128)).run Try.prog w = .ok (.slice (some ⟨w.heap.size, 0, none⟩) 128 128) (w.alloc (.cells (madeCells #[.int .u8 0] 128) 5)) := fun w => kz_made 128 (by omega) w
  have hbk := fun w => kz_back w 128
  generalize bs (zeroL 128) = Z at *
  obtain ⟨x, hx⟩ : ∃ x : UInt8, T[0]'(by omega) = x := ⟨_, rfl⟩
  have hx2 : x.toNat = 2 := by rw [← hx, ht0 (by omega)]; rfl
  have HW1 := Lib.hid hw1
  clear hw1 ht0
  go_enter Try.func13, Try.ntmps13
  go_wp2_with fail
  try rw [HW1.out]
  refine (E1.out _ _ hE1).mono ?_; rintro e w3 ⟨rfl, b3⟩
  have hb3 := bnext hb1 b3
  clear b3 hE1 hb1
  go_wp2_with fail
  refine (F1.out _).mono ?_; rintro e w4 ⟨rfl, b4⟩
  have hb4 := bnext hb3 b4
  clear b4 hb3
  go_wp2_with fail
  refine (F2.out _).mono ?_; rintro e w5 ⟨rfl, b5⟩
  have hb5 := bnext hb4 b5
  clear b5 hb4
  go_wp2_with fail
  refine (R1.out _).mono ?_; rintro e w6 ⟨rfl, b6⟩
  have hb6 := bnext hb5 b6
  clear b6 hb5
  go_wp2_with fail
  refine (I1.out _).mono ?_; rintro e w7 ⟨rfl, b7⟩
  have hb7 := bnext hb6 b7
  clear b7 hb6
  go_wp2_with fail
  refine (P1.out _).mono ?_; rintro e w8 ⟨v8, rfl, hv8, b8⟩
  obtain ⟨ad, cap, rfl, -⟩ := shape_of hv8
  have hb8 := bnext (balloc hb7 _) b8
  clear b8 hb7 hv8
  go_wp2_with fail
  refine (O1.out _).mono ?_; rintro e w9 ⟨rfl, b9⟩
  have hb9 := bnext hb8 b9
  clear b9 hb8
  go_wp2
  go_ret
  exact ⟨ret_bool (by simp [hx2]), hb9⟩
end Go.Proofs.Ytogdogadejjmeaa
