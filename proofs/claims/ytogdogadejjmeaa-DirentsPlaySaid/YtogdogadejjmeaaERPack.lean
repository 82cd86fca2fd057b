/- Name, Pack: the document's. -/
import Derived.Test.YtogdogadejjmeaaEPack
import Derived.Test.YtogdogadejjmeaaKZero
namespace Go.Proofs.Ytogdogadejjmeaa
set_option linter.unusedVariables false
open Go.RowKit

theorem byte_is {x c : UInt8} (h : x ≠ c) : ((x.toNat : Int) == (c.toNat : Int)) = false := by
  rw [beq_eq_false_iff_ne]; intro e; exact h (UInt8.toNat_inj.1 (by omega))
theorem rname_any (s : ByteArray) (hs : s.size ≤ 9223372036854775807) (w : World) :
    Calls Try.prog 27 #[.string s] w fun e w' => e = .returned (.bool (decide (NameOk s))) ∧ Below w.heap.size w w' := by
  by_cases h1 : 1 ≤ s.size
  · have t1 : decide ((s.size : Int) < 1) = false := decide_eq_false (by omega)
    by_cases h2 : s.size ≤ 32
    · have t2 : decide ((32 : Int) < (s.size : Int)) = false := decide_eq_false (by omega)
      have HY : Hid ((∀ j (h : j < s.size), charOk s[j]) → decide (NameOk s) = true) := Lib.hid fun h => decide_eq_true ⟨⟨h1, h2⟩, fun c hc => by
        obtain ⟨j, hj, rfl⟩ := List.getElem_of_mem hc
        have hj' : j < s.size := by rw [bsize] at hj; exact hj
        exact h j hj'⟩
      have HN : Hid (∀ j (h : j < s.size), ¬ charOk s[j] → decide (NameOk s) = false) := Lib.hid fun j h k => decide_eq_false fun q => k (q.2 _ (Array.getElem_mem_toList (xs := s.data) h))
      generalize decide (NameOk s) = R at *
      go_enter Try.func27, Try.ntmps27
      go_wp2
      go_loopw [3] (fun p wr => ∃ k : Nat, p = .int .i64 k ∧ k ≤ s.size ∧ Hid (∀ j (h : j < s.size), j < k → charOk s[j]) ∧ wr = w) (fun p _ => s.size - (intOf p).toNat)
      case atStart => exact ⟨0, rfl, Nat.zero_le _, Lib.hid (fun j h hj => by omega), rfl⟩
      case round =>
        obtain ⟨k, rfl, hk, HK, rfl⟩ := hrel
        by_cases hlt : k < s.size
        · obtain ⟨x, hx⟩ : ∃ x : UInt8, s[k]'hlt = x := ⟨_, rfl⟩
          have HNk := HN.out k hlt
          have HKn : Hid (charOk x → ∀ j (h : j < s.size), j < k + 1 → charOk s[j]) := Lib.hid fun hx2 j h hj => by
            by_cases e : j = k
            · subst e; rw [hx]; exact hx2
            · exact HK.out j h (by omega)
          rw [hx] at HNk
          by_cases h0 : x = 0
          · have HR := Lib.hid (HNk fun q => q.1 h0)
            have q0 : ((x.toNat : Int) == 0) = true := by rw [h0]; rfl
            clear HNk HKn HY HN HK h0
            go_wp2
            go_ret
            exact ⟨by rw [HR.out]; rfl, Below.refl _ _⟩
          · have q0 : ((x.toNat : Int) == 0) = false := byte_is h0
            by_cases h47 : x = 47
            · have HR := Lib.hid (HNk fun q => q.2 h47)
              have q1 : ((x.toNat : Int) == 47) = true := by rw [h47]; rfl
              clear HNk HKn HY HN HK h0 h47
              go_wp2
              go_ret
              exact ⟨by rw [HR.out]; rfl, Below.refl _ _⟩
            · have q1 : ((x.toNat : Int) == 47) = false := byte_is h47
              have HK2 := Lib.hid (HKn.out ⟨h0, h47⟩)
              clear HNk HKn HK h0 h47
              go_wp2
              exact ⟨⟨k + 1, by go_num, by omega, HK2, by first | rfl | trivial⟩, by simp [intOf]; omega⟩
        · obtain rfl : k = s.size := by omega
          have HR := Lib.hid (HY.out fun j h => HK.out j h h)
          go_wp2
          go_ret
          exact ⟨by rw [HR.out]; rfl, Below.refl _ _⟩
    · have t2 : decide ((32 : Int) < (s.size : Int)) = true := decide_eq_true (by omega)
      have HR : Hid (decide (NameOk s) = false) := Lib.hid (decide_eq_false fun q => h2 q.1.2)
      rw [HR.out]
      clear HR h1 h2
      go_enter Try.func27, Try.ntmps27
      go_wp2
      go_ret
      exact ⟨rfl, Below.refl _ _⟩
  · have t1 : decide ((s.size : Int) < 1) = true := decide_eq_true (by omega)
    have HR : Hid (decide (NameOk s) = false) := Lib.hid (decide_eq_false fun q => h1 q.1.1)
    rw [HR.out]
    clear HR h1
    go_enter Try.func27, Try.ntmps27
    go_wp2
    go_ret
    exact ⟨rfl, Below.refl _ _⟩

/-! ### Pack -/
/-- the error so far: a name that was there before -/
def eT (l : List Den) (e : Int) (k j : Nat) : Int := if Has (l.take j) (dat l k).name then 211 else e
def eS (l : List Den) : Nat → Int
  | 0 => 0
  | k + 1 => eT l (eS l k) k k
theorem eS_is (l : List Den) : ∀ k, k ≤ l.length → eS l k = if Apart (l.take k) then 0 else 211
  | 0, _ => by simp [eS, Apart]
  | k + 1, h => by
    have ih := eS_is l k (by omega)
    have ha : Apart (l.take (k + 1)) ↔ Apart (l.take k) ∧ ¬ Has (l.take k) (dat l k).name := by
      rw [List.take_succ_eq_append_getElem (show k < l.length by omega), apart_snoc, dat_eq (show k < l.length by omega)]
    unfold eS eT
    by_cases q : Has (l.take k) (dat l k).name
    · rw [if_pos q, if_neg (fun h => (ha.1 h).2 q)]
    · rw [if_neg q, ih]
      by_cases q2 : Apart (l.take k)
      · rw [if_pos q2, if_pos (ha.2 ⟨q2, q⟩)]
      · rw [if_neg q2, if_neg (fun h => q2 (ha.1 h).1)]
theorem eT_zero (l : List Den) (e : Int) (k : Nat) : eT l e k 0 = e := by unfold eT Has; simp
theorem has_succ {l : List Den} {j : Nat} (hj : j < l.length) (s : ByteArray) : Has (l.take (j + 1)) s ↔ Has (l.take j) s ∨ (dat l j).name = s := by
  rw [List.take_succ_eq_append_getElem hj, ← dat_eq hj]
  unfold Has
  rw [List.map_append, List.mem_append]
  simp [eq_comm]
theorem eT_same {l : List Den} {e : Int} {k j : Nat} (hj : j < l.length) (h : (dat l j).name = (dat l k).name) : eT l e k (j + 1) = 211 := by
  unfold eT; rw [if_pos ((has_succ hj _).2 (.inr h))]
theorem eT_other {l : List Den} {e : Int} {k j : Nat} (hj : j < l.length) (h : (dat l j).name ≠ (dat l k).name) : eT l e k (j + 1) = eT l e k j := by
  unfold eT
  by_cases q : Has (l.take j) (dat l k).name
  · rw [if_pos q, if_pos ((has_succ hj _).2 (.inl q))]
  · rw [if_neg q, if_neg fun r => ((has_succ hj _).1 r).elim q h]
theorem rput_four (n : Nat) (h : n < 4294967296) (w : World) :
    Calls Try.prog 28 #[.string ⟨#[0, 0, 0, 0]⟩, .int .i64 0, .int .i64 4, .int .i64 (n : Int)] w fun e w' => e = .returned (.tuple #[.string (bs (leB 4 n)), .bool (putIntOk 4 0 4 n)]) ∧ Below w.heap.size w w' := by
  have := rputInt_any (bs (zeroL 4)) (by rw [bs_size, zeroL_length]; unfold maxLen; omega) 0 4 n (by omega) w
  have e : putIntV (bs (zeroL 4)) 0 4 n = bs (leB 4 n) := by
    unfold putIntV
    rw [if_pos (by omega)]
    exact put_zero 4 n (by omega) h
  rw [e, bs_size, zeroL_length] at this
  exact this
end Go.Proofs.Ytogdogadejjmeaa
