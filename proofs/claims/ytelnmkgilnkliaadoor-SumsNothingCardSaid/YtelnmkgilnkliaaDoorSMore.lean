/- The contracts of sums.More, of the document's step and More, and of the joins. -/
import Derived.Test.YtelnmkgilnkliaaDoorSums
import Derived.Lib.LaidTab
namespace Go.Proofs.YtelnmkgilnkliaaDoor
open Go.RowKit

theorem even_test (q : Nat) (d : Bool) (h : decide (q % 2 = 1) = d) : ((q : Int) % 2 == 1) = d := by
  rw [← h, Bool.eq_iff_iff]
  simp only [beq_iff_eq, decide_eq_true_eq]; omega

set_option maxHeartbeats 400000 in
theorem step_any (r c : Nat) (hr : r < 4294967296) (hc : c < 256) (w : World) :
    Calls Tryd.prog 17 #[.int .u32 r, .int .u8 c] w fun e w' => e = .returned (.int .u32 (shN 8 (r ^^^ c) : Nat)) ∧ w = w' := by
  have HX := Lib.hid (xor32 r c hr (by omega))
  have hb : r ^^^ c < 4294967296 := Nat.xor_lt_two_pow (n := 32) hr (by omega)
  go_enter Tryd.func17, Tryd.ntmps17
  go_wp2
  go_loop [0, 5] (fun r' i => ∃ k : Nat, k ≤ 8 ∧ i = .int .i64 k ∧ r' = .int .u32 (shN k (r ^^^ c) : Nat)) (fun _ i => 8 - (intOf i).toNat)
  case atStart => exact ⟨0, by decide, rfl, val_u32 HX.out⟩
  case round =>
    obtain ⟨k, hk, rfl, rfl⟩ := hrel
    have hs := shN_lt k _ hb
    by_cases hlt : k < 8
    · have HS := Lib.hid (shN_succ k (r ^^^ c))
      generalize shN k (r ^^^ c) = q at *
      have hx := xor32 (q / 2) 3988292384 (by omega) (by decide)
      have HQ := Lib.hid hx
      clear hx
      by_cases hbit : q % 2 = 1
      · have ht := even_test q true (by simp [hbit])
        have e : Hid (shf q = q / 2 ^^^ 3988292384) := by show _ = _; unfold shf; rw [hbit]
        clear hbit
        go_wp2
        exact ⟨⟨k + 1, by omega, by go_num, val_u32 (by rw [HS.out, e.out]; exact HQ.out)⟩, by simp [intOf]; omega⟩
      · have ht := even_test q false (by simp [hbit])
        have e : Hid (shf q = q / 2) := by
          have h0 : q % 2 = 0 := by omega
          show _ = _; unfold shf; rw [h0]; simp
        clear hbit
        go_wp2
        exact ⟨⟨k + 1, by omega, by go_num, val_u32 (by rw [HS.out, e.out]; rfl)⟩, by simp [intOf]; omega⟩
    · obtain rfl : k = 8 := by omega
      go_wp2
      go_ret
      exact ⟨rfl, rfl⟩

/-- the table of half bytes lies where it lies -/
def Tab (w : World) : Prop := ∀ i < 16, w.cell? ⟨0, i, none⟩ = some (.int .u32 (tab i : Nat))
/-- the sum behind a sum -/
def moreV (r : Nat) (l : List UInt8) : Nat := 4294967295 ^^^ run (4294967295 ^^^ r) l
theorem not_lt (r : Nat) (h : r < 4294967296) : 4294967295 ^^^ r < 4294967296 := Nat.xor_lt_two_pow (n := 32) (by decide) h
theorem moreV_lt (r : Nat) (l : List UInt8) (h : r < 4294967296) : moreV r l < 4294967296 := not_lt _ (run_lt _ _ (not_lt _ h))
theorem not32 (r : Nat) (h : r < 4294967296) : bits .xor .u32 IntKind.u32.max (r : Int) = ((4294967295 ^^^ r : Nat) : Int) := xor32 4294967295 r (by decide) h
theorem tab_lt (i : Nat) (h : i < 16) : tab i < 4294967296 := by
  rw [← tab_is i h]; exact shN_lt _ _ (by omega)
theorem take_snoc (s : ByteArray) (k : Nat) (h : k < s.size) : s.data.toList.take (k + 1) = s.data.toList.take k ++ [s[k]] := by
  rw [List.take_succ_eq_append_getElem (by simpa using h)]; rfl
theorem take_all (s : ByteArray) : s.data.toList.take s.size = s.data.toList := List.take_of_length_le (by simp)

set_option maxHeartbeats 400000 in
theorem more_any (r : Nat) (hr : r < 4294967296) (s : ByteArray) (hs : s.size ≤ maxLen) (w : World) (ht : Tab w) :
    Calls Tryd.prog 12 #[.int .u32 r, .string s] w fun e w' => e = .returned (.int .u32 (moreV r s.data.toList : Nat)) ∧ w = w' := by
  unfold maxLen at hs
  have HT := Lib.hid ht
  clear ht
  have hn := not_lt r hr
  have HN := Lib.hid (not32 r hr)
  go_enter Tryd.func12, Tryd.ntmps12
  go_wp2
  go_loop [5, 11] (fun r' i => ∃ k R : Nat, k ≤ s.size ∧ R < 4294967296 ∧ i = .int .i64 k ∧ r' = .int .u32 R ∧ Hid (run (4294967295 ^^^ r) (s.data.toList.take k) = R)) (fun _ i => s.size - (intOf i).toNat)
  case atStart => exact ⟨0, 4294967295 ^^^ r, by omega, hn, rfl, val_u32 HN.out, Lib.hid rfl⟩
  case round =>
    obtain ⟨k, R, hk, hR, rfl, rfl, HR⟩ := hrel
    by_cases hlt : k < s.size
    · have hc := s[k].toNat_lt
      obtain ⟨a, hea⟩ : ∃ a, a = R ^^^ s[k].toNat := ⟨_, rfl⟩
      have hla : a < 4294967296 := by rw [hea]; exact Nat.xor_lt_two_pow (n := 32) hR (by omega)
      obtain ⟨b, heb⟩ : ∃ b, b = shN 4 a := ⟨_, rfl⟩
      have hlb : b < 4294967296 := by rw [heb]; exact shN_lt _ _ hla
      obtain ⟨d, hed⟩ : ∃ d, d = shN 4 b := ⟨_, rfl⟩
      have hld : d < 4294967296 := by rw [hed]; exact shN_lt _ _ hlb
      have f1 : bits .xor .u32 (R : Int) (s[k].toNat : Int) = (a : Int) := by
        rw [hea, ← xor32 R s[k].toNat hR (by omega)]
      have f2 := and15_32 a hla
      have f3 := HT.out (a % 16) (by omega)
      have f4 : bits .xor .u32 ((a : Int) / 16) (tab (a % 16) : Int) = (b : Int) := by
        have := xor32 (a / 16) (tab (a % 16)) (by omega) (tab_lt _ (by omega))
        rw [heb, half]; exact this
      have f5 := and15_32 b hlb
      have f6 := HT.out (b % 16) (by omega)
      have f7 : bits .xor .u32 ((b : Int) / 16) (tab (b % 16) : Int) = (d : Int) := by
        have := xor32 (b / 16) (tab (b % 16)) (by omega) (tab_lt _ (by omega))
        rw [hed, half]; exact this
      have hend : Hid (run (4294967295 ^^^ r) (s.data.toList.take (k + 1)) = d) := by
        show _ = _
        rw [take_snoc s k hlt, run_snoc, HR.out, hed, heb, ← hea, show 8 = 4 + 4 from rfl, shN_add]
      have hp : a % 16 < 16 := by omega
      have hq : b % 16 < 16 := by omega
      clear hea heb hed
      go_wp2
      exact ⟨⟨k + 1, d, by omega, hld, by go_num, rfl, hend⟩, by simp [intOf]; omega⟩
    · obtain rfl : k = s.size := by omega
      have HM := Lib.hid (not32 R hR)
      go_wp2
      go_ret
      exact ⟨ret_u32 (by rw [HM.out, ← HR.out, take_all]; rfl), rfl⟩

set_option maxHeartbeats 400000 in
theorem rmore_any (r : Nat) (hr : r < 4294967296) (s : ByteArray) (hs : s.size ≤ maxLen) (w : World) :
    Calls Tryd.prog 13 #[.int .u32 r, .string s] w fun e w' => e = .returned (.int .u32 (moreV r s.data.toList : Nat)) ∧ w = w' := by
  unfold maxLen at hs
  have hn := not_lt r hr
  have HN := Lib.hid (xor32 r 4294967295 hr (by decide))
  have ST := Lib.hid step_any
  go_enter Tryd.func13, Tryd.ntmps13
  go_wp2
  go_loop [5, 6] (fun r' i => ∃ k R : Nat, k ≤ s.size ∧ R < 4294967296 ∧ i = .int .i64 k ∧ r' = .int .u32 R ∧ Hid (run (4294967295 ^^^ r) (s.data.toList.take k) = R)) (fun _ i => s.size - (intOf i).toNat)
  case atStart => exact ⟨0, 4294967295 ^^^ r, by omega, hn, rfl, val_u32 (by rw [Nat.xor_comm]; exact HN.out), Lib.hid rfl⟩
  case round =>
    obtain ⟨k, R, hk, hR, rfl, rfl, HR⟩ := hrel
    by_cases hlt : k < s.size
    · have hc := s[k].toNat_lt
      have S1 := Lib.hid (ST.out R s[k].toNat hR (by omega))
      have hl : shN 8 (R ^^^ s[k].toNat) < 4294967296 := shN_lt _ _ (Nat.xor_lt_two_pow (n := 32) hR (by omega))
      have hend : Hid (run (4294967295 ^^^ r) (s.data.toList.take (k + 1)) = shN 8 (R ^^^ s[k].toNat)) := by
        show _ = _
        rw [take_snoc s k hlt, run_snoc, HR.out]
      clear ST
      go_wp2_with fail
      refine (S1.out _).mono ?_; rintro e w' ⟨rfl, rfl⟩
      go_wp2
      exact ⟨⟨k + 1, _, by omega, hl, by go_num, rfl, hend⟩, by simp [intOf]; omega⟩
    · obtain rfl : k = s.size := by omega
      have HM := Lib.hid (xor32 R 4294967295 hR (by decide))
      clear ST
      go_wp2
      go_ret
      exact ⟨ret_u32 (by rw [← take_all s, moreV, HR.out, Nat.xor_comm]; exact HM.out), rfl⟩

end Go.Proofs.YtelnmkgilnkliaaDoor
