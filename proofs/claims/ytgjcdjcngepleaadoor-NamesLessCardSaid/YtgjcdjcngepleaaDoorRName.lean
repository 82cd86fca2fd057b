/- Name: the document's. -/
import Derived.Test.YtgjcdjcngepleaaDoorEMath
import Derived.Test.YtgjcdjcngepleaaDoorBase
namespace Go.Proofs.YtgjcdjcngepleaaDoor
set_option linter.unusedVariables false
open Go.RowKit

theorem byte_is {x c : UInt8} (h : x ≠ c) : ((x.toNat : Int) == (c.toNat : Int)) = false := by
  rw [beq_eq_false_iff_ne]; intro e; exact h (UInt8.toNat_inj.1 (by omega))
theorem rname_any (s : ByteArray) (hs : s.size ≤ 9223372036854775807) (w : World) :
    Calls Tryd.prog 21 #[.string s] w fun e w' => e = .returned (.bool (decide (NameOk s))) ∧ Below w.heap.size w w' := by
  by_cases h1 : 1 ≤ s.size
  · have t1 : decide ((s.size : Int) < 1) = false := decide_eq_false (by omega)
    by_cases h2 : s.size ≤ 32
    · have t2 : decide ((32 : Int) < (s.size : Int)) = false := decide_eq_false (by omega)
      have HY : Hid ((∀ j (h : j < s.size), charOk s[j]) → decide (NameOk s) = true) := Lib.hid fun h => decide_eq_true ⟨⟨h1, h2⟩, fun c hc => by
        obtain ⟨j, hj, rfl⟩ := List.getElem_of_mem hc
        have hj' : j < s.size := by rw [bsize] at hj; exact hj
        exact h j hj'⟩
      have HN : Hid (∀ j (h : j < s.size), ¬ charOk s[j] → decide (NameOk s) = false) := Lib.hid fun j h k => decide_eq_false fun q => k (q.2 _ (Array.getElem_mem_toList (xs := s.data) h))
      generalize decide (NameOk s) = R at *
      go_enter Tryd.func21, Tryd.ntmps21
      go_wp2
      go_loopw [3] (fun p wr => ∃ k : Nat, p = .int .i64 k ∧ k ≤ s.size ∧ Hid (∀ j (h : j < s.size), j < k → charOk s[j]) ∧ wr = w) (fun p _ => s.size - (intOf p).toNat)
      case atStart => exact ⟨0, rfl, Nat.zero_le _, Lib.hid (fun j h hj => by omega), rfl⟩
      case round =>
        obtain ⟨k, rfl, hk, HK, rfl⟩ := hrel
        by_cases hlt : k < s.size
        · obtain ⟨x, hx⟩ : ∃ x : UInt8, s[k]'hlt = x := ⟨_, rfl⟩
          have HNk := HN.out k hlt
          have HKn : Hid (charOk x → ∀ j (h : j < s.size), j < k + 1 → charOk s[j]) := Lib.hid fun hx2 j h hj => by
            by_cases e : j = k
            · subst e; rw [hx]; exact hx2
            · exact HK.out j h (by omega)
          rw [hx] at HNk
          by_cases h0 : x = 0
          · have HR := Lib.hid (HNk fun q => q.1 h0)
            have q0 : ((x.toNat : Int) == 0) = true := by rw [h0]; rfl
            clear HNk HKn HY HN HK h0
            go_wp2
            go_ret
            exact ⟨by rw [HR.out]; rfl, Below.refl _ _⟩
          · have q0 : ((x.toNat : Int) == 0) = false := byte_is h0
            by_cases h47 : x = 47
            · have HR := Lib.hid (HNk fun q => q.2 h47)
              have q1 : ((x.toNat : Int) == 47) = true := by rw [h47]; rfl
              clear HNk HKn HY HN HK h0 h47
              go_wp2
              go_ret
              exact ⟨by rw [HR.out]; rfl, Below.refl _ _⟩
            · have q1 : ((x.toNat : Int) == 47) = false := byte_is h47
              have HK2 := Lib.hid (HKn.out ⟨h0, h47⟩)
              clear HNk HKn HK h0 h47
              go_wp2
              exact ⟨⟨k + 1, by go_num, by omega, HK2, by first | rfl | trivial⟩, by simp [intOf]; omega⟩
        · obtain rfl : k = s.size := by omega
          have HR := Lib.hid (HY.out fun j h => HK.out j h h)
          go_wp2
          go_ret
          exact ⟨by rw [HR.out]; rfl, Below.refl _ _⟩
    · have t2 : decide ((32 : Int) < (s.size : Int)) = true := decide_eq_true (by omega)
      have HR : Hid (decide (NameOk s) = false) := Lib.hid (decide_eq_false fun q => h2 q.1.2)
      rw [HR.out]
      clear HR h1 h2
      go_enter Tryd.func21, Tryd.ntmps21
      go_wp2
      go_ret
      exact ⟨rfl, Below.refl _ _⟩
  · have t1 : decide ((s.size : Int) < 1) = true := decide_eq_true (by omega)
    have HR : Hid (decide (NameOk s) = false) := Lib.hid (decide_eq_false fun q => h1 q.1.1)
    rw [HR.out]
    clear HR h1
    go_enter Tryd.func21, Tryd.ntmps21
    go_wp2
    go_ret
    exact ⟨rfl, Below.refl _ _⟩
end Go.Proofs.YtgjcdjcngepleaaDoor
