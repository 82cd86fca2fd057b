/- slices.IndexFunc, slices.ContainsFunc at entries, whatever function they are handed. -/
import Derived.Test.YtogdogadejjmeaaENum
namespace Go.Proofs.Ytogdogadejjmeaa
set_option linter.unusedVariables false
open Go.RowKit

/-- where the first of the list is, of which p holds; or -1 -/
def idxD (p : Den → Bool) (l : List Den) : Int := match l.findIdx? p with | some i => i | none => -1
theorem idxD_hit {p : Den → Bool} {l : List Den} {k : Nat} (h : k < l.length) (h1 : ∀ j, j < k → p (dat l j) = false) (h2 : p (dat l k) = true) : idxD p l = (k : Int) := by
  have : l.findIdx? p = some k := by
    rw [List.findIdx?_eq_some_iff_getElem]
    refine ⟨h, by rw [← dat_eq h]; exact h2, fun j hj => ?_⟩
    rw [← dat_eq (by omega), h1 j hj]; decide
  unfold idxD; rw [this]
theorem idxD_miss {p : Den → Bool} {l : List Den} (h1 : ∀ j, j < l.length → p (dat l j) = false) : idxD p l = -1 := by
  have : l.findIdx? p = none := by
    rw [List.findIdx?_eq_none_iff]
    intro x hx
    obtain ⟨j, hj, rfl⟩ := List.getElem_of_mem hx
    rw [← dat_eq hj]; exact h1 j hj
  unfold idxD; rw [this]
theorem idxD_any (p : Den → Bool) (l : List Den) : decide (0 ≤ idxD p l) = l.any p := by
  by_cases h : ∃ k, k < l.length ∧ p (dat l k) = true
  · have hex : ∃ k, (k < l.length ∧ p (dat l k) = true) ∧ ∀ j, j < k → ¬ (j < l.length ∧ p (dat l j) = true) := by
      obtain ⟨k, hk⟩ := h
      induction k using Nat.strongRecOn with
      | ind k ih =>
        by_cases q : ∃ j, j < k ∧ (j < l.length ∧ p (dat l j) = true)
        · obtain ⟨j, hj, hq⟩ := q
          exact ih j hj hq
        · exact ⟨k, hk, fun j hj hq => q ⟨j, hj, hq⟩⟩
    obtain ⟨k, ⟨h1, h2⟩, h3⟩ := hex
    rw [idxD_hit h1 (fun j hj => by
      cases e : p (dat l j) with
      | false => rfl
      | true => exact absurd ⟨by omega, e⟩ (h3 j hj)) h2]
    rw [decide_eq_true (by omega), eq_comm, List.any_eq_true]
    exact ⟨_, dat_mem h1, h2⟩
  · rw [idxD_miss fun j hj => by
      cases e : p (dat l j) with
      | false => rfl
      | true => exact absurd ⟨j, hj, e⟩ h]
    rw [decide_eq_false (by omega), eq_comm, List.any_eq_false]
    intro x hx
    obtain ⟨j, hj, rfl⟩ := List.getElem_of_mem hx
    rw [← dat_eq hj]
    exact fun e => h ⟨j, hj, e⟩
set_option maxHeartbeats 4000000 in
theorem idx_any (l : List Den) (fn : Nat) (caps : Array Value) (p : Den → Bool) (v : Value) (w : World) (hv : DensIn v l w)
    (hent : ∀ args w, (callFunc fn args).run Try.prog w = .ok (.enter fn args) w)
    (hc : ∀ d ∈ l, ∀ W, Below w.heap.size w W → Calls Try.prog fn (#[denV d] ++ caps) W fun e w' => e = .returned (.bool (p d)) ∧ Below W.heap.size W w') :
    Calls Try.prog 31 #[v, .func (.func fn) #[] caps] w fun e w' => e = .returned (.int .i64 (idxD p l)) ∧ Below w.heap.size w w' := by
  obtain ⟨ad, cap, rfl, h1, h2, h3, -⟩ := densIn_cells hv
  have HC := Lib.hid fun k (hk : k < l.length) => hc _ (dat_mem hk)
  have HH := Lib.hid fun k => @idxD_hit p l k
  have HM := Lib.hid (@idxD_miss p l)
  obtain ⟨R, hR⟩ : ∃ R, R = idxD p l := ⟨_, rfl⟩
  rw [← hR] at HH HM ⊢
  obtain ⟨D, hD⟩ : ∃ D : Nat → Den, D = dat l := ⟨_, rfl⟩
  rw [← hD] at HC HH HM h3
  clear hR hD hc hv
  generalize l.length = n at *
  go_enter Try.func31, Try.ntmps31
  go_wp2
  go_loopw [8] (fun q wr => ∃ k : Nat, q = .int .i64 k ∧ k ≤ n ∧ Hid (∀ j, j < k → p (D j) = false) ∧ Below w.heap.size w wr) (fun q _ => n - (intOf q).toNat)
  case atStart => exact ⟨0, rfl, Nat.zero_le _, Lib.hid (fun j hj => by omega), Below.refl _ _⟩
  case round =>
    obtain ⟨k, rfl, hk, HK, hb⟩ := hrel
    by_cases hlt : k < n
    · obtain ⟨g, o, rfl, hg, hcc⟩ := h3 (by omega)
      obtain ⟨c1, c2⟩ := hcc wr hb k hlt
      have C := HC.out k hlt wr hb
      have HHk := Lib.hid (HH.out k hlt HK.out)
      have HKn : Hid (p (D k) = false → ∀ j, j < k + 1 → p (D j) = false) := Lib.hid fun h j hj => by
        by_cases e : j = k
        · subst e; exact h
        · exact HK.out j (by omega)
      generalize D k = d at *
      generalize p d = b at *
      obtain ⟨nm, ino⟩ := d
      dsimp only at *
      have C := Lib.hid C
      clear h3 hcc HC HH HM
      cases b
      · go_wp2_with fail
        refine C.out.mono ?_; rintro e w2 ⟨rfl, b2⟩
        have hb2 := bnext hb b2
        have HKk := Lib.hid (HKn.out (by simp))
        clear b2 C HKn HHk
        go_wp2
        exact ⟨⟨k + 1, by go_num, by omega, HKk, hb2⟩, by simp [intOf]; omega⟩
      · go_wp2_with fail
        refine C.out.mono ?_; rintro e w2 ⟨rfl, b2⟩
        have hb2 := bnext hb b2
        have HHr := Lib.hid (HHk.out (by simp))
        clear b2 C HKn HHk
        go_wp2
        go_ret
        exact ⟨by rw [HHr.out]; rfl, hb2⟩
    · obtain rfl : k = n := by omega
      have HMr := Lib.hid (HM.out HK.out)
      go_wp2
      go_ret
      exact ⟨by rw [HMr.out]; rfl, hb⟩
theorem cont_any (l : List Den) (fn : Nat) (p : Den → Bool) (v : Value) (w : World) (hv : DensIn v l w)
    (hent : ∀ args w, (callFunc fn args).run Try.prog w = .ok (.enter fn args) w)
    (hc : ∀ d ∈ l, ∀ W, Below w.heap.size w W → Calls Try.prog fn #[denV d] W fun e w' => e = .returned (.bool (p d)) ∧ Below W.heap.size W w') :
    Calls Try.prog 35 #[v, .func (.func fn) #[] #[]] w fun e w' => e = .returned (.bool (l.any p)) ∧ Below w.heap.size w w' := by
  have C := Lib.hid (idx_any l fn #[] p v w hv hent (by simpa using hc))
  have HR : Hid (decide (0 ≤ idxD p l) = l.any p) := Lib.hid (idxD_any p l)
  generalize l.any p = b at *
  generalize idxD p l = r at *
  clear hc hent
  go_enter Try.func35, Try.ntmps35
  go_wp2_with fail
  refine C.out.mono ?_; rintro e w2 ⟨rfl, b2⟩
  go_wp2
  go_ret
  exact ⟨ret_bool HR.out, b2⟩
theorem str_iff (a b : ByteArray) : (a.toList = b.toList) ↔ a = b := by
  constructor
  · intro e
    rw [ByteArray.toList_eq, ByteArray.toList_eq] at e
    have := congrArg bs e
    rwa [bs_of, bs_of] at this
  · rintro rfl; rfl
theorem str_beq (a b : ByteArray) : (a.toList == b.toList) = decide (a = b) := by rw [Bool.eq_iff_iff]; simp [str_iff]
/-- the closure of Find and Remove -/
theorem named_clo (d : Den) (s : ByteArray) (B : Nat) (W : World) (hB : B < W.heap.size) (hc : W.cell? ⟨B, 0, none⟩ = some (.string s)) :
    Calls Try.prog 49 #[denV d, .pointer (some ⟨B, 0, none⟩)] W fun e w' => e = .returned (.bool (decide (d.name = s))) ∧ Below W.heap.size W w' := by
  have hb := balloc1 W (.cells (denC d) 25)
  have hc2 := ((balloc1 W (.cells (denC d) 25)).cell (p := ⟨B, 0, none⟩) hB).trans hc
  have hne : ¬ B = W.heap.size := by omega
  obtain ⟨nm, n⟩ := d
  dsimp only at *
  go_enter Try.func49, Try.ntmps49
  go_wp2
  go_ret
  exact ⟨ret_bool (by rw [Bool.eq_iff_iff]; simp [str_iff]), hb⟩
theorem named_any (s : ByteArray) (w : World) :
    Calls Try.prog 32 #[.string s] w fun e w' => e = .returned (.func (.func 49) #[] #[.pointer (some ⟨w.heap.size, 0, none⟩)]) ∧ w' = w.alloc (.cells #[.string s] 9) := by
  go_enter Try.func32, Try.ntmps32
  go_wp2
  go_ret
  exact ⟨rfl, rfl⟩
end Go.Proofs.Ytogdogadejjmeaa
