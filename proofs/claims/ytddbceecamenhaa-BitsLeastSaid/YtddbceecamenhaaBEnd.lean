/- The walk of BitsLeast, whole. -/
import Derived.Test.YtddbceecamenhaaBMain
namespace Go.Proofs.Ytddbceecamenhaa
set_option linter.unusedVariables false
open Go.RowKit

theorem least_walk (s : ByteArray) (hm : s.size ≤ maxLen) (n : Int) (hn : n ≤ 9223372036854775807) (size «from» : Int) (hf : «from» ≤ 9223372036854775807) (w : World) :
    Calls Try.prog 8 #[.string s, .int .i64 n, .agg #[.int .i64 size, .int .i64 «from»]] w fun e w' => e = .returned (.bool true) ∧ Below w.heap.size w w' := by
  unfold maxLen at hm
  by_cases hs : s.size ≤ 300
  · have hs2 : s.size ≤ 2000 := by omega
    have hN := firstV_le s n
    have C1 := fit_any s hs2 n size «from» hf
    by_cases hz : size < 1
    · have e : fitV (runs (bitAt s) (firstV s n)) size «from» = none := by unfold fitV; rw [if_pos hz]
      rw [e] at C1
      exact least_none s hs n size «from» C1 w
    · obtain ⟨z, rfl⟩ := Int.eq_ofNat_of_zero_le (show 0 ≤ size by omega)
      rcases fit_sound (bitAt s) (firstV s n) z «from» (by omega) _ rfl with ⟨h1, h2⟩ | ⟨p, h1, h2⟩
      · rw [h1] at C1
        exact least_none s hs n z «from» C1 w
      · rw [h1] at C1
        obtain ⟨⟨g1, g2⟩, g3⟩ := h2
        have hNn : (firstV s n : Int) ≤ n := by
          have : 1 ≤ firstV s n := by omega
          unfold firstV at this ⊢; omega
        have hno : ∀ q, q < p → ¬ Hit (bitAt s) (firstV s n) z q → ¬ ∀ j < z, bitAt s (q + j) = false := fun q hq hh hall => hh ⟨by omega, hall⟩
        rcases g3 with ⟨k1, k2⟩ | ⟨k1, k2, k3⟩
        · by_cases h0 : «from» < 0
          · exact least_at0 s hs n «from» z p h0 (by omega) (by omega) (by omega) hn g2 (fun q _ hq => hno q hq (k2 q (by omega) hq)) C1 w
          · obtain ⟨φ, rfl⟩ := Int.eq_ofNat_of_zero_le (show 0 ≤ «from» by omega)
            exact least_at s hs n z p φ (by omega) (by omega) (by omega) (by omega) hn g2 (fun q hq1 hq => hno q hq (k2 q (by omega) hq)) C1 w
        · have C2 := fit_any s hs2 n z ((p : Int) + 1) (by omega)
          rcases fit_sound (bitAt s) (firstV s n) z ((p : Int) + 1) (by omega) _ rfl with ⟨i1, i2⟩ | ⟨p', i1, i2⟩
          · exact absurd ⟨g1, g2⟩ (i2 p)
          · rw [i1] at C2
            exact least_round s hs n «from» z p _ _ k1 (by omega) (by omega) (by omega) hn g2 (fun q _ hq => hno q hq (k3 q hq)) C1 C2 w
  · have hs : 300 < s.size := by omega
    go_enter Try.func8, Try.ntmps8
    go_wp2
    go_ret
    exact ⟨rfl, (Below.refl _ _).alloc (Nat.le_refl _) _⟩
end Go.Proofs.Ytddbceecamenhaa
