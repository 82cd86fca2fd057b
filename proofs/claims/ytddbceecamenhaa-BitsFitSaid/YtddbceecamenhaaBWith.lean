/- The contracts of bits.With, and of the document's Has, With and Count. -/
import Derived.Test.YtddbceecamenhaaBNext
import Derived.Laws.IdiomStrings
import Derived.Lib.Strings
import Derived.Deep.QuietTactic
import Derived.BigQuiet
import Derived.BigRegion
import Derived.IntWalk
namespace Go.Proofs.Ytddbceecamenhaa
set_option linter.unusedVariables false
open Go.RowKit

/-- a byte in which bit j is as told -/
def setB (x j : Nat) (on : Bool) : Nat := x - x / 2 ^ j % 2 * 2 ^ j + (if on then 2 ^ j else 0)
theorem setB_lt : ∀ x < 256, ∀ j < 8, ∀ on, setB x j on < 256 := by decide +kernel
theorem setB_bit : ∀ x < 256, ∀ j < 8, ∀ on, ∀ m < 8, (setB x j on).testBit m = if m = j then on else x.testBit m := by decide +kernel
theorem setB_same : ∀ x < 256, ∀ j < 8, setB x j (x.testBit j) = x := by decide +kernel
theorem setB_twice : ∀ x < 256, ∀ j < 8, ∀ a b, setB (setB x j a) j b = setB x j b := by decide +kernel
theorem andNot8 : ∀ x < 256, ∀ j < 8, bits .andNot .u8 ((x : Nat) : Int) (2 ^ j % 256) = ((setB x j false : Nat) : Int) := by decide +kernel
theorem or8 : ∀ x < 256, ∀ j < 8, bits .or .u8 ((setB x j false : Nat) : Int) (2 ^ j % 256) = ((setB x j true : Nat) : Int) := by decide +kernel

/-- P3.1: a text in which bit k is as told -/
def withS (s : ByteArray) (k : Nat) (on : Bool) : ByteArray := ⟨(s.data.toList.set (k / 8) (UInt8.ofNat (setB (byteAt s (k / 8)) (k % 8) on))).toArray⟩
def withV (s : ByteArray) (i : Int) (on : Bool) : ByteArray := if isBit s i then withS s i.toNat on else s
theorem withV_yes {s : ByteArray} {k : Nat} {on : Bool} (h : k < 8 * s.size) : withV s k on = withS s k on := by
  unfold withV; rw [if_pos (isBit_yes h)]; rfl
theorem withV_no {s : ByteArray} {i : Int} {on : Bool} (h : ¬ (0 ≤ i ∧ i < 8 * (s.size : Int))) : withV s i on = s := by
  unfold withV; rw [if_neg (by rw [isBit_no h]; simp)]
theorem withS_size (s : ByteArray) (k : Nat) (on : Bool) : (withS s k on).size = s.size := by
  show (List.set _ _ _).toArray.size = _
  simp
theorem byte_with (s : ByteArray) (k : Nat) (on : Bool) (h : k < 8 * s.size) (m : Nat) : byteAt (withS s k on) m = if m = k / 8 then setB (byteAt s m) (k % 8) on else byteAt s m := by
  have hl : k / 8 < s.data.toList.length := by show k / 8 < s.size; omega
  have e0 : (withS s k on).data.toList = s.data.toList.set (k / 8) (UInt8.ofNat (setB (byteAt s (k / 8)) (k % 8) on)) := rfl
  have e1 : byteAt (withS s k on) m = ((withS s k on).data.toList[m]?.getD 0).toNat := rfl
  rw [e1, e0]
  by_cases e : m = k / 8
  · subst e
    rw [if_pos rfl, List.getElem?_set_self hl]
    show (UInt8.ofNat _).toNat = _
    rw [UInt8.toNat_ofNat']
    exact Nat.mod_eq_of_lt (setB_lt _ (byteAt_lt s _) _ (by omega) _)
  · rw [if_neg e, List.getElem?_set_ne (by omega)]; rfl
theorem bit_with (s : ByteArray) (k : Nat) (on : Bool) (h : k < 8 * s.size) (i : Nat) : bitAt (withS s k on) i = if i = k then on else bitAt s i := by
  unfold bitAt
  rw [byte_with s k on h]
  by_cases e : i / 8 = k / 8
  · rw [if_pos e, setB_bit _ (byteAt_lt s _) _ (by omega) _ _ (by omega)]
    by_cases e2 : i = k
    · subst e2; simp
    · rw [if_neg (by omega), if_neg e2]
  · rw [if_neg e, if_neg (by omega)]
theorem text_ext (s t : ByteArray) (h : s.size = t.size) (hb : ∀ m, byteAt s m = byteAt t m) : s = t := by
  obtain ⟨⟨a⟩⟩ := s
  obtain ⟨⟨b⟩⟩ := t
  congr 2
  apply List.ext_getElem
  · exact h
  · intro m h1 h2
    have := hb m
    unfold byteAt at this
    rw [List.getElem?_eq_getElem h1, List.getElem?_eq_getElem h2] at this
    exact UInt8.toNat_inj.1 this
theorem with_same (s : ByteArray) (k : Nat) (h : k < 8 * s.size) : withS s k (bitAt s k) = s := by
  refine text_ext _ _ (withS_size _ _ _) fun m => ?_
  rw [byte_with s k _ h]
  by_cases e : m = k / 8
  · subst e; rw [if_pos rfl]; exact setB_same _ (byteAt_lt s _) _ (Nat.mod_lt _ (by decide))
  · rw [if_neg e]
theorem with_twice (s : ByteArray) (k : Nat) (a b : Bool) (h : k < 8 * s.size) : withS (withS s k a) k b = withS s k b := by
  refine text_ext _ _ (by rw [withS_size, withS_size, withS_size]) fun m => ?_
  rw [byte_with _ k _ (by rw [withS_size]; exact h), byte_with s k _ h, byte_with s k _ h]
  by_cases e : m = k / 8
  · subst e; simp only [↓reduceIte]; exact setB_twice (byteAt s (k / 8)) (byteAt_lt s _) (k % 8) (Nat.mod_lt _ (by decide)) a b
  · rw [if_neg e, if_neg e]; rw [if_neg e]
theorem with_eq (s : ByteArray) (k : Nat) (on : Bool) (h : k < 8 * s.size) : s.extract 0 (k / 8) ++ ⟨#[UInt8.ofNat (setB (byteAt s (k / 8)) (k % 8) on)]⟩ ++ s.extract (k / 8 + 1) s.size = withS s k on := by
  have e : (s.data.toList.drop (k / 8 + 1)).take (s.size - (k / 8 + 1)) = s.data.toList.drop (k / 8 + 1) := by
    apply List.take_of_length_le
    have e : s.data.toList.length = s.size := rfl
    rw [List.length_drop, e]; exact Nat.le_refl _
  rw [Lib.extract_eq, Lib.extract_eq, ByteArray.mk_append_mk, ByteArray.mk_append_mk, e, List.drop_zero, Nat.sub_zero]
  unfold withS
  rw [List.set_eq_take_append_cons_drop, if_pos (by show k / 8 < s.size; omega)]
  simp

/-- a byte alone, made into a text -/
theorem one_back (w : World) (m : Nat) (hm : m < 256) : (convert 40 9 (.slice (some ⟨w.heap.size, 0, none⟩) 1 1)).run Try.prog (w.alloc (.cells #[.int .u8 (m : Int)] 5)) = .ok (.string ⟨#[UInt8.ofNat m]⟩) (w.alloc (.cells #[.int .u8 (m : Int)] 5)) :=
  run_convert_bytes_back (P := Try.prog) _ 40 9 5 ⟨w.heap.size, 0, none⟩ 1 [UInt8.ofNat m] Try.underlying40 Try.underlying5 Try.underlying9 (fun j hj => by
    have : j = 0 := by simpa using hj
    subst this
    have hadd : (⟨w.heap.size, 0, none⟩ : Addr).add 0 = ⟨w.heap.size, 0, none⟩ := by unfold Addr.add; split <;> simp_all
    rw [hadd, World.cell?_alloc_mark]
    simp; omega)

theorem ret_str {a b : ByteArray} (h : a = b) : Ending.returned (.string a) = .returned (.string b) := by rw [h]

set_option maxHeartbeats 1000000 in
theorem with_any (s : ByteArray) (hs : s.size ≤ 2000) (i : Int) (on : Bool) (w : World) :
    Calls Try.prog 12 #[.string s, .int .i64 i, .bool on] w fun e w' => e = .returned (.string (withV s i on)) ∧ Below w.heap.size w w' := by
  have hE := exists_any s hs i
  rcases bit_cases s i with ⟨k, rfl, hk⟩ | h
  · rw [isBit_yes hk] at hE
    rw [withV_yes hk]
    have HE := Lib.hid hE
    have hq : k / 8 < s.size := by omega
    obtain ⟨x, hx⟩ : ∃ x, s[k / 8].toNat = x := ⟨_, rfl⟩
    have hx2 : x < 256 := by rw [← hx]; exact UInt8.toNat_lt _
    have HW := Lib.hid (with_eq s k on hk)
    have HX := Lib.hid ((byteAt_eq s _ hq).trans hx)
    have g1 := andNot8 x hx2 (k % 8) (by omega)
    have g2 := or8 x hx2 (k % 8) (by omega)
    have l1 := setB_lt x hx2 (k % 8) (by omega) false
    have l2 := setB_lt x hx2 (k % 8) (by omega) true
    have hm : setB x (k % 8) on = if on then setB x (k % 8) true else setB x (k % 8) false := by cases on <;> rfl
    have HM := Lib.hid hm
    have ha0 : (0 : Int) ≤ (k : Int) / 8 := by omega
    have ha1 : (k : Int) / 8 ≤ (s.size : Int) := by omega
    have ha2 : (k : Int) / 8 + 1 ≤ (s.size : Int) := by omega
    have hb1 : k / 8 ≤ s.size := by omega
    have hb2 : k / 8 + 1 ≤ s.size := by omega
    have hk2 : k ≤ 16000 := by omega
    have va : IntKind.i64.wrap ((k : Int) / 8) = (k : Int) / 8 := IntWalk.i64_in _ (by omega)
    have vb : IntKind.i64.wrap ((k : Int) % 8) = (k : Int) % 8 := IntWalk.i64_in _ (by omega)
    have vc : IntKind.i64.wrap ((k : Int) / 8 + 1) = (k : Int) / 8 + 1 := IntWalk.i64_in _ (by omega)
    have vd : (k : Int) / 8 < (s.size : Int) := by omega
    have ve : (0 : Int) ≤ (k : Int) % 8 := by omega
    clear hE hm hk
    generalize setB x (k % 8) false = p at *
    generalize setB x (k % 8) true = q at *
    have o1 : ∀ n, (convert 40 9 (.slice (some ⟨w.heap.size, 0, none⟩) 1 1)).run Try.prog ((w.drewN n).alloc (.cells #[.int .u8 (p : Int)] 5)) = .ok (.string ⟨#[UInt8.ofNat p]⟩) ((w.drewN n).alloc (.cells #[.int .u8 (p : Int)] 5)) := fun n => one_back (w.drewN n) p l1
    have o2 : ∀ n, (convert 40 9 (.slice (some ⟨w.heap.size, 0, none⟩) 1 1)).run Try.prog ((w.drewN n).alloc (.cells #[.int .u8 (q : Int)] 5)) = .ok (.string ⟨#[UInt8.ofNat q]⟩) ((w.drewN n).alloc (.cells #[.int .u8 (q : Int)] 5)) := fun n => one_back (w.drewN n) q l2
    have hc1 : ¬ (9223372036854775807 < min (k / 8) s.size + 1) := by omega
    have hc2 : ¬ (9223372036854775807 < min (k / 8) s.size + 1 + (s.size - (k / 8 + 1))) := by omega
    go_enter Try.func12, Try.ntmps12
    go_wp2_with fail
    refine (HE.out _).mono ?_; rintro e w' ⟨rfl, rfl⟩
    go_wp2
    go_quiet (fail)
    go_wp2
    all_goals go_region
    all_goals go_wp2
    all_goals go_ret
    all_goals refine ⟨ret_str ?_, (below_drewN (Below.refl _ _) _).alloc (Nat.le_refl _) _⟩
    all_goals rw [← HW.out, HX.out, HM.out]
    all_goals first | rw [if_pos (by assumption)] | rw [if_neg (by simp [*])]
  · rw [isBit_no h] at hE
    rw [withV_no h]
    have HE := Lib.hid hE
    clear hE h
    go_enter Try.func12, Try.ntmps12
    go_wp2_with fail
    refine (HE.out _).mono ?_; rintro e w' ⟨rfl, rfl⟩
    go_wp2
    go_ret
    exact ⟨rfl, Below.refl _ _⟩

theorem half_test (q : Nat) : ((q : Int) % 2 == 1) = decide (q % 2 = 1) := by
  rw [Bool.eq_iff_iff]; simp only [beq_iff_eq, decide_eq_true_eq]; omega

set_option maxHeartbeats 1000000 in
theorem rhas_any (s : ByteArray) (hs : s.size ≤ 2000) (i : Int) (hi : i ≤ 9223372036854775807) (w : World) :
    Calls Try.prog 11 #[.string s, .int .i64 i] w fun e w' => e = .returned (.bool (hasV s i)) ∧ w = w' := by
  rcases bit_cases s i with ⟨k, rfl, hk⟩ | h
  · rw [hasV_yes hk]
    have hq : k / 8 < s.size := by omega
    obtain ⟨x, hx⟩ : ∃ x, s[k / 8].toNat = x := ⟨_, rfl⟩
    have hx2 : x < 256 := by rw [← hx]; exact UInt8.toNat_lt _
    have HB : Hid (bitAt s k = x.testBit (k % 8)) := by show _ = _; unfold bitAt; rw [byteAt_eq s _ hq, hx]
    have hk2 : k ≤ 16000 := by omega
    clear hk
    go_enter Try.func11, Try.ntmps11
    go_wp2
    go_loop [5, 6] (fun b p => ∃ j q : Nat, p = .int .i64 j ∧ j ≤ k % 8 ∧ b = .int .u8 q ∧ q < 256 ∧ Hid (x / 2 ^ j = q)) (fun _ p => k % 8 - (intOf p).toNat)
    case atStart => exact ⟨0, x, rfl, Nat.zero_le _, rfl, hx2, Lib.hid (by simp)⟩
    case round =>
      obtain ⟨j, q, rfl, hj, rfl, hq2, HQ⟩ := hrel
      by_cases hlt : j < k % 8
      · have HN : Hid (x / 2 ^ (j + 1) = q / 2) := by show _ = _; rw [Nat.pow_succ, ← Nat.div_div_eq_div_mul, HQ.out]
        go_wp2
        exact ⟨⟨j + 1, q / 2, by go_num, by omega, by go_num, by omega, HN⟩, by simp [intOf]; omega⟩
      · obtain rfl : j = k % 8 := by omega
        have ht := half_test q
        have HT : Hid (x.testBit (k % 8) = decide (q % 2 = 1)) := by show _ = _; rw [Nat.testBit_eq_decide_div_mod_eq, HQ.out]
        have HF := Lib.hid ht
        clear ht
        go_wp2
        go_ret
        exact ⟨ret_bool (by rw [HB.out, HT.out, ← HF.out]; try rfl), rfl⟩
  · rw [hasV_no h]
    by_cases h0 : i < 0
    · clear h
      go_enter Try.func11, Try.ntmps11
      go_wp2
      go_ret
      exact ⟨rfl, rfl⟩
    · obtain ⟨m, rfl⟩ := Int.eq_ofNat_of_zero_le (show 0 ≤ i by omega)
      have h2 : s.size ≤ m / 8 := by omega
      clear h h0
      go_enter Try.func11, Try.ntmps11
      go_wp2
      go_ret
      exact ⟨rfl, rfl⟩

set_option maxHeartbeats 1000000 in
theorem rcount_any (s : ByteArray) (hs : s.size ≤ 2000) (n : Int) (hn : n ≤ 9223372036854775807) (w : World) :
    Calls Try.prog 18 #[.string s, .int .i64 n] w fun e w' => e = .returned (.int .i64 (cnt (bitAt s) (firstV s n) : Nat)) ∧ w = w' := by
  have F := Lib.hid (rfirst_any s hs n hn)
  have RH := Lib.hid (rhas_any s hs)
  have hN := firstV_le s n
  generalize firstV s n = N at *
  go_enter Try.func18, Try.ntmps18
  go_wp2
  go_loop [5, 6] (fun c p => ∃ k q : Nat, p = .int .i64 k ∧ k ≤ N ∧ c = .int .i64 q ∧ q ≤ k ∧ Hid (cnt (bitAt s) k = q)) (fun _ p => N - (intOf p).toNat)
  case atStart => exact ⟨0, 0, rfl, Nat.zero_le _, rfl, Nat.le_refl _, Lib.hid rfl⟩
  case round =>
    obtain ⟨k, q, rfl, hk, rfl, hq8, HQ⟩ := hrel
    by_cases hlt : k < N
    · have R := RH.out k (by omega)
      rw [hasV_nat] at R
      have HN : Hid (cnt (bitAt s) (k + 1) = q + (bitAt s k).toNat) := by show _ = _; rw [cnt, HQ.out]
      generalize bitAt s k = b at *
      have R := Lib.hid R
      clear RH
      go_wp2_with fail
      refine (F.out _).mono ?_; rintro e w' ⟨rfl, rfl⟩
      go_wp2_with fail
      refine (R.out _).mono ?_; rintro e w' ⟨rfl, rfl⟩
      cases b
      · go_wp2
        exact ⟨⟨k + 1, q, by go_num, by omega, rfl, by omega, HN⟩, by simp [intOf]; omega⟩
      · go_wp2
        exact ⟨⟨k + 1, q + 1, by go_num, by omega, by go_num, by omega, HN⟩, by simp [intOf]; omega⟩
    · obtain rfl : k = N := by omega
      clear RH
      go_wp2_with fail
      refine (F.out _).mono ?_; rintro e w' ⟨rfl, rfl⟩
      go_wp2
      go_ret
      exact ⟨ret_int (by rw [HQ.out]), rfl⟩

theorem setB_on : ∀ x < 256, ∀ j < 8, x.testBit j = false → x + 2 ^ j = setB x j true := by decide +kernel
theorem setB_off : ∀ x < 256, ∀ j < 8, x.testBit j = true → 2 ^ j ≤ x ∧ x - 2 ^ j = setB x j false := by decide +kernel

set_option maxHeartbeats 1000000 in
theorem rwith_any (s : ByteArray) (hs : s.size ≤ 2000) (i : Int) (hi : i ≤ 9223372036854775807) (on : Bool) (w : World) :
    Calls Try.prog 13 #[.string s, .int .i64 i, .bool on] w fun e w' => e = .returned (.string (withV s i on)) ∧ Below w.heap.size w w' := by
  have hR := rhas_any s hs i hi
  rcases bit_cases s i with ⟨k, rfl, hk⟩ | h
  · rw [withV_yes hk]
    rw [hasV_yes hk] at hR
    have hk2 : k ≤ 16000 := by omega
    have hq : k / 8 < s.size := by omega
    by_cases hb : bitAt s k = on
    · have HS := Lib.hid (with_same s k hk)
      rw [← hb]
      generalize bitAt s k = b at *
      have HR := Lib.hid hR
      have ht : (b == b) = true := by simp
      clear hR hb hk
      go_enter Try.func13, Try.ntmps13
      go_wp2_with fail
      refine (HR.out _).mono ?_; rintro e w' ⟨rfl, rfl⟩
      go_wp2
      go_ret
      exact ⟨ret_str HS.out.symm, Below.refl _ _⟩
    · have hb2 : bitAt s k = !on := by revert hb; cases bitAt s k <;> cases on <;> simp
      rw [hb2] at hR
      have HR := Lib.hid hR
      obtain ⟨x, hx⟩ : ∃ x, s[k / 8].toNat = x := ⟨_, rfl⟩
      have hx2 : x < 256 := by rw [← hx]; exact UInt8.toNat_lt _
      have hxb : x.testBit (k % 8) = !on := by rw [← hb2]; unfold bitAt; rw [byteAt_eq s _ hq, hx]
      have HW := Lib.hid (with_eq s k on hk)
      have HX := Lib.hid ((byteAt_eq s _ hq).trans hx)
      have ha0 : (0 : Int) ≤ (k : Int) / 8 := by omega
      have ha1 : (k : Int) / 8 ≤ (s.size : Int) := by omega
      have ha2 : (k : Int) / 8 + 1 ≤ (s.size : Int) := by omega
      have hb1 : k / 8 ≤ s.size := by omega
      have hb2 : k / 8 + 1 ≤ s.size := by omega
      have va : IntKind.i64.wrap ((k : Int) / 8) = (k : Int) / 8 := IntWalk.i64_in _ (by omega)
      have vc : IntKind.i64.wrap ((k : Int) / 8 + 1) = (k : Int) / 8 + 1 := IntWalk.i64_in _ (by omega)
      have hc1 : ¬ (9223372036854775807 < min (k / 8) s.size + 1) := by omega
      have hc2 : ¬ (9223372036854775807 < min (k / 8) s.size + 1 + (s.size - (k / 8 + 1))) := by omega
      obtain ⟨p, hp⟩ : ∃ p, 2 ^ (k % 8) = p := ⟨_, rfl⟩
      have HP := Lib.hid hp
      clear hR hb hk
      cases on
      · obtain ⟨g1, g2⟩ := setB_off x hx2 (k % 8) (by omega) hxb
        rw [hp] at g1 g2
        have l1 := setB_lt x hx2 (k % 8) (by omega) false
        obtain ⟨y, hy⟩ : ∃ y, setB x (k % 8) false = y := ⟨_, rfl⟩
        rw [hy] at g2 l1
        have HY := Lib.hid hy
        clear hy
        have o1 : (convert 40 9 (.slice (some ⟨w.heap.size, 0, none⟩) 1 1)).run Try.prog (w.alloc (.cells #[.int .u8 (y : Int)] 5)).drew = .ok (.string ⟨#[UInt8.ofNat y]⟩) (w.alloc (.cells #[.int .u8 (y : Int)] 5)).drew := one_back w.drew y l1
        have G := Lib.hid g2
        clear hp hxb g2
        go_enter Try.func13, Try.ntmps13
        go_wp2_with fail
        refine (HR.out _).mono ?_; rintro e w' ⟨rfl, rfl⟩
        go_wp2
        go_loop [7, 8] (fun m q => ∃ j r : Nat, q = .int .i64 j ∧ j ≤ k % 8 ∧ m = .int .u8 r ∧ r < 256 ∧ Hid (2 ^ j = r)) (fun _ q => k % 8 - (intOf q).toNat)
        case atStart => exact ⟨0, 1, rfl, Nat.zero_le _, rfl, by decide, Lib.hid rfl⟩
        case round =>
          obtain ⟨j, r, rfl, hj, rfl, hr, HJ⟩ := hrel
          by_cases hlt : j < k % 8
          · have hr2 : r ≤ 64 := by
              rw [← HJ.out]
              exact Nat.le_trans (Nat.pow_le_pow_right (by decide) (show j ≤ 6 by omega)) (by decide)
            have HN : Hid (2 ^ (j + 1) = r * 2) := by show _ = _; rw [Nat.pow_succ, HJ.out]
            go_wp2
            exact ⟨⟨j + 1, r * 2, by go_num, by omega, by go_num, by omega, HN⟩, by simp [intOf]; omega⟩
          · obtain rfl : j = k % 8 := by omega
            obtain rfl : r = p := by rw [← HJ.out]; exact HP.out
            have hy : x - r = y := G.out
            have fy : (x : Int) - (r : Int) = (y : Int) := by omega
            clear hy
            go_wp2
            go_region
            go_wp2
            go_ret
            exact ⟨ret_str (by rw [← HW.out, HX.out, HY.out]), ((Below.refl _ _).alloc (Nat.le_refl _) _).drew⟩
      · have g2 := setB_on x hx2 (k % 8) (by omega) hxb
        rw [hp] at g2
        have l1 := setB_lt x hx2 (k % 8) (by omega) true
        obtain ⟨y, hy⟩ : ∃ y, setB x (k % 8) true = y := ⟨_, rfl⟩
        rw [hy] at g2 l1
        have HY := Lib.hid hy
        clear hy
        have o1 : (convert 40 9 (.slice (some ⟨w.heap.size, 0, none⟩) 1 1)).run Try.prog (w.alloc (.cells #[.int .u8 (y : Int)] 5)).drew = .ok (.string ⟨#[UInt8.ofNat y]⟩) (w.alloc (.cells #[.int .u8 (y : Int)] 5)).drew := one_back w.drew y l1
        have G := Lib.hid g2
        clear hp hxb g2
        go_enter Try.func13, Try.ntmps13
        go_wp2_with fail
        refine (HR.out _).mono ?_; rintro e w' ⟨rfl, rfl⟩
        go_wp2
        go_loop [7, 8] (fun m q => ∃ j r : Nat, q = .int .i64 j ∧ j ≤ k % 8 ∧ m = .int .u8 r ∧ r < 256 ∧ Hid (2 ^ j = r)) (fun _ q => k % 8 - (intOf q).toNat)
        case atStart => exact ⟨0, 1, rfl, Nat.zero_le _, rfl, by decide, Lib.hid rfl⟩
        case round =>
          obtain ⟨j, r, rfl, hj, rfl, hr, HJ⟩ := hrel
          by_cases hlt : j < k % 8
          · have hr2 : r ≤ 64 := by
              rw [← HJ.out]
              exact Nat.le_trans (Nat.pow_le_pow_right (by decide) (show j ≤ 6 by omega)) (by decide)
            have HN : Hid (2 ^ (j + 1) = r * 2) := by show _ = _; rw [Nat.pow_succ, HJ.out]
            go_wp2
            exact ⟨⟨j + 1, r * 2, by go_num, by omega, by go_num, by omega, HN⟩, by simp [intOf]; omega⟩
          · obtain rfl : j = k % 8 := by omega
            obtain rfl : r = p := by rw [← HJ.out]; exact HP.out
            have hy : x + r = y := G.out
            have fy : (x : Int) + (r : Int) = (y : Int) := by omega
            clear hy
            go_wp2
            go_region
            go_wp2
            go_ret
            exact ⟨ret_str (by rw [← HW.out, HX.out, HY.out]), ((Below.refl _ _).alloc (Nat.le_refl _) _).drew⟩
  · rw [withV_no h]
    by_cases h0 : i < 0
    · clear h hR
      go_enter Try.func13, Try.ntmps13
      go_wp2
      go_ret
      exact ⟨rfl, Below.refl _ _⟩
    · obtain ⟨m, rfl⟩ := Int.eq_ofNat_of_zero_le (show 0 ≤ i by omega)
      have h2 : s.size ≤ m / 8 := by omega
      clear h h0 hR
      go_enter Try.func13, Try.ntmps13
      go_wp2
      go_ret
      exact ⟨rfl, Below.refl _ _⟩
end Go.Proofs.Ytddbceecamenhaa
