/- The contracts of words.Put and of the document's Put, and of their twins for ints. -/
import Derived.Test.YtogdogadejjmeaaWGet
import Derived.Laws.IdiomStrings
import Derived.Lib.Strings
import Derived.Deep.QuietTactic
import Derived.BigQuiet
namespace Go.Proofs.Ytogdogadejjmeaa
open Go.RowKit

/-- the text l with the k lowest bytes of n at a -/
def putL (l : List UInt8) (a k n : Nat) : List UInt8 := l.take a ++ leB k n ++ l.drop (a + k)
def putS (s : ByteArray) (a k n : Nat) : ByteArray := ⟨(putL s.data.toList a k n).toArray⟩

theorem putL_length (l : List UInt8) (a k n : Nat) (h : a + k ≤ l.length) : (putL l a k n).length = l.length := by
  unfold putL; simp [leB_length]; omega

theorem putL_zero (l : List UInt8) (a n : Nat) : putL l a 0 n = l := by unfold putL leB; simp

theorem putL_succ (l : List UInt8) (a k n : Nat) (h : a + k < l.length) : putL l a (k + 1) n = (putL l a k n).set (a + k) (UInt8.ofNat (n / 256 ^ k)) := by
  unfold putL
  rw [leB_succ_snoc, List.set_append_right _ _ (by simp [leB_length]; omega)]
  have e : a + k - (l.take a ++ leB k n).length = 0 := by simp [leB_length]; omega
  rw [e, List.drop_eq_getElem_cons h, List.set_cons_zero]
  simp [Nat.add_assoc]

/-- what a string's bytes become in memory -/
theorem bytes_made (s : ByteArray) (w : World) : ∃ (cap lo : Nat) (C : Array Value), (convert 9 43 (.string s)).run Try.prog w = .ok (.slice (some ⟨w.heap.size, 0, none⟩) s.size cap) (w.alloc (.cells C 5 (lo, lo + 1))).drew ∧ s.size ≤ lo ∧ ∀ j (h : j < s.size), C[j]? = some (.int .u8 ((s.data.toList[j]'(by simpa using h)).toNat : Int)) := by
  refine ⟨_, _, _, run_bytes_of_string w 9 43 5 s Try.underlying9 Try.underlying43 Try.underlying5, ?_, fun j h => ?_⟩
  · unfold bytesRow; simp
  · rw [bytesRow_at s _ j h]; simp

theorem ret_pair {a b c d : Value} (h1 : a = b) (h2 : c = d) : Ending.returned (.tuple #[a, c]) = .returned (.tuple #[b, d]) := by rw [h1, h2]
theorem ret_boolW {a b : Bool} (h : a = b) : Ending.returned (.bool a) = .returned (.bool b) := by rw [h]
theorem plain_add (b o j : Nat) : (⟨b, o, none⟩ : Addr).add j = ⟨b, o + j, none⟩ := by unfold Addr.add; split <;> simp_all

set_option maxHeartbeats 400000 in
theorem fits_any (n z : Nat) (hn : n < 18446744073709551616) (hz : z = 1 ∨ z = 2 ∨ z = 4 ∨ z = 8) (w : World) :
    Calls Try.prog 61 #[.int .u64 n, .int .i64 z] w fun e w' => e = .returned (.bool (decide (n < 256 ^ z))) ∧ w = w' := by
  rcases hz with rfl | rfl | rfl | rfl
  all_goals
    go_enter Try.func61, Try.ntmps61
    go_wp2
    go_ret
    exact ⟨ret_boolW (by rw [Bool.eq_iff_iff]; simp only [beq_iff_eq, decide_eq_true_eq]; omega), rfl⟩

set_option maxHeartbeats 400000 in
theorem put_yes (s : ByteArray) (hs : s.size ≤ maxLen) (a z n : Nat) (hz : z = 1 ∨ z = 2 ∨ z = 4 ∨ z = 8) (ha : a + z ≤ s.size) (hn : n < 256 ^ z) (w : World) :
    Calls Try.prog 51 #[.string s, .int .i64 a, .int .i64 z, .int .u64 n] w fun e w' => e = .returned (.tuple #[.string (putS s a z n), .bool true]) ∧ Below w.heap.size w w' := by
  have hok : fieldOk s.size a z = true := by unfold fieldOk; simp; omega
  have hv := valid_any s hs a z
  rw [hok] at hv
  have HV := Lib.hid hv
  clear hv hok
  have hn64 : n < 18446744073709551616 := by
    have h3 : (256 : Nat) ^ z ≤ 256 ^ 8 := Nat.pow_le_pow_right (by decide) (by omega)
    have h4 : (256 : Nat) ^ 8 = 18446744073709551616 := by decide
    omega
  have hf := fits_any n z hn64 hz
  rw [decide_eq_true hn] at hf
  have HF := Lib.hid hf
  clear hf
  obtain ⟨cap, lo, C, hconv, hlo, hC⟩ := bytes_made s w
  have HC := Lib.hid hC
  clear hC
  unfold maxLen at hs
  go_enter Try.func51, Try.ntmps51
  go_wp2_with (first | (go_at_call 60; refine (HV.out _).mono ?_; rintro e w' ⟨rfl, rfl⟩) | (go_at_call 61; refine (HF.out _).mono ?_; rintro e w' ⟨rfl, rfl⟩))
  go_loopw [26] (fun i wr => ∃ k : Nat, k ≤ z ∧ i = .int .i64 k ∧ Below w.heap.size w wr ∧ w.heap.size < wr.heap.size ∧ ∀ j (h : j < s.size), wr.cell? ⟨w.heap.size, j, none⟩ = some (.int .u8 (((putL s.data.toList a k n)[j]?.getD 0).toNat : Int)) ∧ wr.frozen? ⟨w.heap.size, j, none⟩ = false) (fun i _ => z - (intOf i).toNat)
  case atStart =>
    refine ⟨0, Nat.zero_le _, rfl, ((Below.refl _ _).alloc (Nat.le_refl _) _).drew, by show _ < (w.heap.push _).size; simp, fun j h => ⟨?_, ?_⟩⟩
    · show (w.alloc (.cells C 5 (lo, lo + 1))).cell? _ = _
      rw [World.cell?_alloc_mark, HC.out j h, putL_zero, List.getElem?_eq_getElem (by simpa using h)]; rfl
    · show (w.alloc (.cells C 5 (lo, lo + 1))).frozen? _ = _
      rw [World.frozen?_alloc_mark]; simp; omega
  case round =>
    obtain ⟨k, hk, rfl, hb, hsz, hc⟩ := hrel
    by_cases hlt : k < z
    · obtain ⟨hc1, hf1⟩ := hc (a + k) (by omega)
      have HK := Lib.hid hc
      clear hc
      go_wp2
      refine ⟨⟨k + 1, by omega, by go_num, hb.setCell (Nat.le_refl _) _, by simpa [World.setCell] using hsz, fun j h => ⟨?_, ?_⟩⟩, by simp [intOf]; omega⟩
      · rw [putL_succ _ _ _ _ (by have : s.data.toList.length = s.size := rfl; omega)]
        by_cases hj : j = a + k
        · subst hj
          rw [World.cell?_setCell_same _ _ _ hc1, List.getElem?_set_self (by rw [putL_length _ _ _ _ (by have : s.data.toList.length = s.size := rfl; omega)]; exact h)]
          refine congrArg (fun x => some (Value.int .u8 x)) ?_
          simp only [Option.getD_some]
          have e1 : (UInt8.ofNat (n / 256 ^ k)).toNat = n / 256 ^ k % 256 := by simp
          rw [e1, show (256 : Nat) ^ k = 2 ^ (8 * k) by rw [Nat.pow_mul]]
          simp
        · rw [World.cell?_setCell_other _ _ _ _ (by simp), List.getElem?_set_ne (by omega)]
          exact (HK.out j h).1
      · rw [World.frozen?_setCell]; exact (HK.out j h).2
    · obtain rfl : k = z := by omega
      have hlen : (putL s.data.toList a k n).length = s.size := putL_length _ _ _ _ ha
      have hback := run_convert_bytes_back (P := Try.prog) wr 43 9 5 ⟨w.heap.size, 0, none⟩ cap (putL s.data.toList a k n) Try.underlying43 Try.underlying5 Try.underlying9 (fun j hj => by
        have := (hc j (by omega)).1
        rw [List.getElem?_eq_getElem hj] at this
        rw [plain_add, Nat.zero_add]; exact this)
      rw [hlen] at hback
      have HL := Lib.hid hlen
      clear hc hconv hlen
      go_wp2
      go_ret2
      exact ⟨rfl, hb⟩

set_option maxHeartbeats 400000 in
theorem put_bad (s : ByteArray) (hs : s.size ≤ maxLen) (a z : Int) (n : Nat) (h : fieldOk s.size a z = false) (w : World) :
    Calls Try.prog 51 #[.string s, .int .i64 a, .int .i64 z, .int .u64 n] w fun e w' => e = .returned (.tuple #[.string ⟨#[]⟩, .bool false]) ∧ w = w' := by
  have hv := valid_any s hs a z
  rw [h] at hv
  have HV := Lib.hid hv
  clear hv h
  go_enter Try.func51, Try.ntmps51
  go_wp2_with (go_at_call 60; refine (HV.out _).mono ?_; rintro e w' ⟨rfl, rfl⟩)
  go_ret2
  exact ⟨rfl, rfl⟩

set_option maxHeartbeats 400000 in
theorem put_big (s : ByteArray) (hs : s.size ≤ maxLen) (a z n : Nat) (hz : z = 1 ∨ z = 2 ∨ z = 4 ∨ z = 8) (h : fieldOk s.size a z = true) (hn64 : n < 18446744073709551616) (hn : ¬ n < 256 ^ z) (w : World) :
    Calls Try.prog 51 #[.string s, .int .i64 a, .int .i64 z, .int .u64 n] w fun e w' => e = .returned (.tuple #[.string ⟨#[]⟩, .bool false]) ∧ w = w' := by
  have hv := valid_any s hs a z
  rw [h] at hv
  have HV := Lib.hid hv
  have hf := fits_any n z hn64 hz
  rw [decide_eq_false hn] at hf
  have HF := Lib.hid hf
  clear hf hv h hn
  go_enter Try.func51, Try.ntmps51
  go_wp2_with (first | (go_at_call 60; refine (HV.out _).mono ?_; rintro e w' ⟨rfl, rfl⟩) | (go_at_call 61; refine (HF.out _).mono ?_; rintro e w' ⟨rfl, rfl⟩))
  go_ret2
  exact ⟨rfl, rfl⟩

/-- may n be put into z bytes at a? and the text in which it is put -/
def putOk (len : Nat) (a z : Int) (n : Nat) : Bool := fieldOk len a z && decide (n < 256 ^ z.toNat)
def putV (s : ByteArray) (a z : Int) (n : Nat) : ByteArray := if putOk s.size a z n then putS s a.toNat z.toNat n else ⟨#[]⟩

theorem putOk_yes {len : Nat} {a z : Int} {n : Nat} (h : putOk len a z n = true) : ∃ (b y : Nat), a = b ∧ z = y ∧ (y = 1 ∨ y = 2 ∨ y = 4 ∨ y = 8) ∧ b + y ≤ len ∧ n < 256 ^ y := by
  unfold putOk at h
  simp only [Bool.and_eq_true, decide_eq_true_eq] at h
  obtain ⟨b, y, rfl, rfl, hy, hb⟩ := fieldOk_yes h.1
  exact ⟨b, y, rfl, rfl, hy, hb, by simpa using h.2⟩

theorem putV_yes {s : ByteArray} {b y n : Nat} (h : putOk s.size b y n = true) : putV s b y n = putS s b y n := by
  unfold putV; rw [if_pos h]; simp
theorem putV_no {s : ByteArray} {a z : Int} {n : Nat} (h : putOk s.size a z n = false) : putV s a z n = ⟨#[]⟩ := by
  unfold putV; rw [if_neg (by simp [h])]

theorem putOk_cases {len : Nat} {a z : Int} {n : Nat} (h : putOk len a z n = false) : fieldOk len a z = false ∨ ∃ b y : Nat, a = b ∧ z = y ∧ (y = 1 ∨ y = 2 ∨ y = 4 ∨ y = 8) ∧ b + y ≤ len ∧ fieldOk len b y = true ∧ ¬ n < 256 ^ y := by
  by_cases hf : fieldOk len a z = true
  · have hf' := hf
    obtain ⟨b, y, rfl, rfl, hy, hb⟩ := fieldOk_yes hf
    refine .inr ⟨b, y, rfl, rfl, hy, hb, hf', fun k => ?_⟩
    unfold putOk at h
    rw [hf', Bool.true_and, decide_eq_false_iff_not] at h
    exact h (by simpa using k)
  · exact .inl (by simpa using hf)

theorem put_any (s : ByteArray) (hs : s.size ≤ maxLen) (a z : Int) (n : Nat) (hn : n < 18446744073709551616) (w : World) :
    Calls Try.prog 51 #[.string s, .int .i64 a, .int .i64 z, .int .u64 n] w fun e w' => e = .returned (.tuple #[.string (putV s a z n), .bool (putOk s.size a z n)]) ∧ Below w.heap.size w w' := by
  by_cases h : putOk s.size a z n = true
  · obtain ⟨b, y, rfl, rfl, hy, hb, hlt⟩ := putOk_yes h
    rw [h, putV_yes h]
    exact put_yes s hs b y n hy hb hlt w
  · have h' : putOk s.size a z n = false := by simpa using h
    rw [h', putV_no h']
    rcases putOk_cases h' with k | ⟨b, y, rfl, rfl, hy, hb, hf, hlt⟩
    · exact (put_bad s hs a z n k w).mono fun _ _ ⟨he, hw⟩ => ⟨he, hw ▸ Below.refl _ _⟩
    · exact (put_big s hs b y n hy hf hn hlt w).mono fun _ _ ⟨he, hw⟩ => ⟨he, hw ▸ Below.refl _ _⟩

set_option maxHeartbeats 400000 in
theorem rput_bad (s : ByteArray) (hs : s.size ≤ maxLen) (a z : Int) (n : Nat) (h : fieldOk s.size a z = false) (w : World) :
    Calls Try.prog 46 #[.string s, .int .i64 a, .int .i64 z, .int .u64 n] w fun e w' => e = .returned (.tuple #[.string ⟨#[]⟩, .bool false]) ∧ w = w' := by
  have hv := within_any s hs a z
  rw [h] at hv
  have HV := Lib.hid hv
  clear hv h
  go_enter Try.func46, Try.ntmps46
  go_wp2_with (go_at_call 57; refine (HV.out _).mono ?_; rintro e w' ⟨rfl, rfl⟩)
  go_ret2
  exact ⟨rfl, rfl⟩

/-- a byte alone, made into a text -/
theorem one_back (wr : World) (m : Nat) : (convert 43 9 (.slice (some ⟨wr.heap.size, 0, none⟩) 1 1)).run Try.prog (wr.alloc (.cells #[.int .u8 ((m : Int) % 256)] 5)) = .ok (.string ⟨#[UInt8.ofNat m]⟩) (wr.alloc (.cells #[.int .u8 ((m : Int) % 256)] 5)) :=
  run_convert_bytes_back (P := Try.prog) _ 43 9 5 ⟨wr.heap.size, 0, none⟩ 1 [UInt8.ofNat m] Try.underlying43 Try.underlying5 Try.underlying9 (fun j hj => by
    have : j = 0 := by simpa using hj
    subst this
    rw [plain_add]
    rw [World.cell?_alloc_mark]
    simp)

theorem putS_eq (s : ByteArray) (a k n : Nat) : s.extract 0 a ++ ⟨(leB k n).toArray⟩ ++ s.extract (a + k) s.size = putS s a k n := by
  have e : (s.data.toList.drop (a + k)).take (s.size - (a + k)) = s.data.toList.drop (a + k) := by
    apply List.take_of_length_le
    have e : s.data.toList.length = s.size := rfl
    rw [List.length_drop, e]; exact Nat.le_refl _
  rw [Lib.extract_eq, Lib.extract_eq, ByteArray.mk_append_mk, ByteArray.mk_append_mk, e, List.drop_zero, Nat.sub_zero]
  rfl

set_option maxHeartbeats 400000 in
theorem rput_in (s : ByteArray) (hs : s.size ≤ maxLen) (a z n : Nat) (hz : z = 1 ∨ z = 2 ∨ z = 4 ∨ z = 8) (ha : a + z ≤ s.size) (hn : n < 18446744073709551616) (w : World) :
    Calls Try.prog 46 #[.string s, .int .i64 a, .int .i64 z, .int .u64 n] w fun e w' => e = .returned (.tuple #[.string (putV s a z n), .bool (putOk s.size a z n)]) ∧ Below w.heap.size w w' := by
  have hok : fieldOk s.size a z = true := by unfold fieldOk; simp; omega
  have hv := within_any s hs a z
  rw [hok] at hv
  have HV := Lib.hid hv
  have hq : putOk s.size a z n = decide (n < 256 ^ z) := by unfold putOk; rw [hok]; simp
  have HO := Lib.hid hok
  clear hv hok
  have hz8 : z ≤ 8 := by omega
  rw [hq]
  unfold maxLen at hs
  have HQ := Lib.hid hq
  clear hq hz
  go_enter Try.func46, Try.ntmps46
  go_wp2_with (go_at_call 57; refine (HV.out _).mono ?_; rintro e w' ⟨rfl, rfl⟩)
  go_loopw [3, 10, 11] (fun m b i wr => ∃ k q : Nat, k ≤ z ∧ i = .int .i64 k ∧ b = .string ⟨(leB k n).toArray⟩ ∧ m = .int .u64 (q : Int) ∧ Hid (n / 256 ^ k = q) ∧ Below w.heap.size w wr) (fun _ _ i _ => z - (intOf i).toNat)
  case atStart => exact ⟨0, n, Nat.zero_le _, rfl, rfl, rfl, by show n / 256 ^ 0 = n; simp, Below.refl _ _⟩
  case round =>
    obtain ⟨k, m, hk, rfl, rfl, rfl, HM, hb⟩ := hrel
    have hle : m ≤ n := by rw [← HM.out]; exact Nat.div_le_self _ _
    have hl8 : (leB k n).length ≤ 8 := by rw [leB_length]; omega
    by_cases hlt : k < z
    · have hone := one_back wr m
      go_wp2
      refine ⟨⟨k + 1, m / 256, by omega, by go_num, ?_, by simp, ?_, hb.alloc hb.size _⟩, by simp [intOf]; omega⟩
      · rw [leB_succ_snoc, HM.out]
        congr 1
      · show n / 256 ^ (k + 1) = m / 256
        rw [← HM.out, Nat.pow_succ, Nat.div_div_eq_div_mul]
    · obtain rfl : k = z := by omega
      by_cases hpos : 0 < m
      · have hno : decide (n < 256 ^ k) = false := by
          rw [decide_eq_false_iff_not]; intro h
          have := HM.out; rw [Nat.div_eq_of_lt h] at this; omega
        have HN := Lib.hid hno
        clear hno
        go_wp2
        go_ret2
        exact ⟨ret_pair (congrArg Value.string (putV_no (HQ.out.trans HN.out)).symm) (congrArg Value.bool HN.out.symm), hb⟩
      · have hyes : decide (n < 256 ^ k) = true := by
          rw [decide_eq_true_eq]
          have h0 : n / 256 ^ k = 0 := by rw [HM.out]; omega
          exact (Nat.div_eq_zero_iff_lt (Nat.pow_pos (by decide))).1 h0
        have HY := Lib.hid hyes
        clear hyes
        go_wp2
        have ha0 : (0 : Int) ≤ (a : Int) := by omega
        have ha1 : (a : Int) ≤ (s.size : Int) := by omega
        have ha2 : (a : Int) + (k : Int) ≤ (s.size : Int) := by omega
        have hc1 : ¬ (9223372036854775807 < min a s.size + (leB k n).length) := by rw [leB_length]; omega
        have hc2 : ¬ (9223372036854775807 < min a s.size + (leB k n).length + (s.size - (a + k))) := by rw [leB_length]; omega
        go_quiet (fail)
        go_wp2
        go_ret2
        exact ⟨ret_pair (congrArg Value.string (by rw [putV_yes (HQ.out.trans HY.out)]; exact putS_eq s a k n)) (congrArg Value.bool HY.out.symm), below_drewN hb _⟩

theorem rput_any (s : ByteArray) (hs : s.size ≤ maxLen) (a z : Int) (n : Nat) (hn : n < 18446744073709551616) (w : World) :
    Calls Try.prog 46 #[.string s, .int .i64 a, .int .i64 z, .int .u64 n] w fun e w' => e = .returned (.tuple #[.string (putV s a z n), .bool (putOk s.size a z n)]) ∧ Below w.heap.size w w' := by
  by_cases h : fieldOk s.size a z = true
  · obtain ⟨b, y, rfl, rfl, hy, hb⟩ := fieldOk_yes h
    exact rput_in s hs b y n hy hb hn w
  · have h' : fieldOk s.size a z = false := by simpa using h
    have hq : putOk s.size a z n = false := by unfold putOk; rw [h']; rfl
    rw [hq, putV_no hq]
    exact (rput_bad s hs a z n h' w).mono fun _ _ ⟨he, hw⟩ => ⟨he, hw ▸ Below.refl _ _⟩

end Go.Proofs.Ytogdogadejjmeaa
