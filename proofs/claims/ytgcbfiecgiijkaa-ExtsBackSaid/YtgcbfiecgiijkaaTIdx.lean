/- slices.IndexFunc at exts; the program's Find. -/
import Derived.Test.YtgcbfiecgiijkaaTWithin
namespace Go.Proofs.Ytgcbfiecgiijkaa
set_option linter.unusedVariables false
open Go.RowKit

/-- where the first of the list is, of which p holds; or -1 -/
def idxE (p : Ent → Bool) (l : List Ent) : Int := match l.findIdx? p with | some i => i | none => -1
theorem idxE_hit {p : Ent → Bool} {l : List Ent} {k : Nat} (h : k < l.length) (h1 : ∀ j, j < k → p (eat l j) = false) (h2 : p (eat l k) = true) : idxE p l = (k : Int) := by
  have : l.findIdx? p = some k := by
    rw [List.findIdx?_eq_some_iff_getElem]
    refine ⟨h, by rw [← eat_eq h]; exact h2, fun j hj => ?_⟩
    rw [← eat_eq (by omega), h1 j hj]; decide
  unfold idxE; rw [this]
theorem idxE_miss {p : Ent → Bool} {l : List Ent} (h1 : ∀ j, j < l.length → p (eat l j) = false) : idxE p l = -1 := by
  have : l.findIdx? p = none := by
    rw [List.findIdx?_eq_none_iff]
    intro x hx
    obtain ⟨j, hj, rfl⟩ := List.getElem_of_mem hx
    rw [← eat_eq hj]; exact h1 j hj
  unfold idxE; rw [this]
set_option maxHeartbeats 4000000 in
theorem idxE_any (l : List Ent) (fn : Nat) (caps : Array Value) (p : Ent → Bool) (v : Value) (w : World) (hv : EntsIn v l w)
    (hent : ∀ args w, (callFunc fn args).run Try.prog w = .ok (.enter fn args) w)
    (hc : ∀ d ∈ l, ∀ W, Below w.heap.size w W → Calls Try.prog fn (#[entV d] ++ caps) W fun e w' => e = .returned (.bool (p d)) ∧ Below W.heap.size W w') :
    Calls Try.prog 36 #[v, .func (.func fn) #[] caps] w fun e w' => e = .returned (.int .i64 (idxE p l)) ∧ Below w.heap.size w w' := by
  obtain ⟨ad, cap, rfl, h1, h2, h3, -⟩ := entsIn_cells hv
  have HC := Lib.hid fun k (hk : k < l.length) => hc _ (eat_mem hk)
  have HH := Lib.hid fun k => @idxE_hit p l k
  have HM := Lib.hid (@idxE_miss p l)
  obtain ⟨R, hR⟩ : ∃ R, R = idxE p l := ⟨_, rfl⟩
  rw [← hR] at HH HM ⊢
  obtain ⟨D, hD⟩ : ∃ D : Nat → Ent, D = eat l := ⟨_, rfl⟩
  rw [← hD] at HC HH HM h3
  clear hR hD hc hv
  generalize l.length = n at *
  go_enter Try.func36, Try.ntmps36
  go_wp2
  go_loopw [8] (fun q wr => ∃ k : Nat, q = .int .i64 k ∧ k ≤ n ∧ Hid (∀ j, j < k → p (D j) = false) ∧ Below w.heap.size w wr) (fun q _ => n - (intOf q).toNat)
  case atStart => exact ⟨0, rfl, Nat.zero_le _, Lib.hid (fun j hj => by omega), Below.refl _ _⟩
  case round =>
    obtain ⟨k, rfl, hk, HK, hb⟩ := hrel
    by_cases hlt : k < n
    · obtain ⟨g, o, rfl, hg, hcc⟩ := h3 (by omega)
      obtain ⟨c1, c2, c3⟩ := hcc wr hb k hlt
      have C := HC.out k hlt wr hb
      have HHk := Lib.hid (HH.out k hlt HK.out)
      have HKn : Hid (p (D k) = false → ∀ j, j < k + 1 → p (D j) = false) := Lib.hid fun h j hj => by
        by_cases e : j = k
        · subst e; exact h
        · exact HK.out j (by omega)
      generalize D k = d at *
      generalize p d = b at *
      obtain ⟨da, dp, dz⟩ := d
      dsimp only at *
      have C := Lib.hid C
      clear h3 hcc HC HH HM
      cases b
      · go_wp2_with fail
        refine C.out.mono ?_; rintro e w2 ⟨rfl, b2⟩
        have hb2 := bnext hb b2
        have HKk := Lib.hid (HKn.out (by simp))
        clear b2 C HKn HHk
        go_wp2
        exact ⟨⟨k + 1, by go_num, by omega, HKk, hb2⟩, by simp [intOf]; omega⟩
      · go_wp2_with fail
        refine C.out.mono ?_; rintro e w2 ⟨rfl, b2⟩
        have hb2 := bnext hb b2
        have HHr := Lib.hid (HHk.out (by simp))
        clear b2 C HKn HHk
        go_wp2
        go_ret
        exact ⟨by rw [HHr.out]; rfl, hb2⟩
    · obtain rfl : k = n := by omega
      have HMr := Lib.hid (HM.out HK.out)
      go_wp2
      go_ret
      exact ⟨by rw [HMr.out]; rfl, hb⟩
set_option maxRecDepth 100000 in
set_option maxHeartbeats 4000000 in
theorem xfind_clo (y : Ent) (hok : EntOk true y) (p : Int) (B : Nat) (W : World) (hB : B < W.heap.size) (hc : W.cell? ⟨B, 0, none⟩ = some (.int .i64 p)) :
    Calls Try.prog 37 #[entV y, .pointer (some ⟨B, 0, none⟩)] W fun e w' => e = .returned (.bool (decide (p < y.log + y.len))) ∧ Below W.heap.size W w' := by
  have mixed : Try.prog.follows .mixedOrders = true := by kernel_rfl
  have hlow := entOk_low hok
  have E := fun w => xend_any y ⟨by omega, by omega⟩ w
  have hb := balloc1 W (.cells (entC y) 37)
  have kb := fun q : BelowP (W.alloc (.cells (entC y) 37)) => ent_new W y 37 q
  have k0 := fun q => (kb q).1
  have k1 := fun q => (kb q).2.1
  have k2 := fun q => (kb q).2.2
  have kp := fun q : BelowP (W.alloc (.cells (entC y) 37)) => ((hb.trans (q.h.mono (by rw [size_alloc]; omega))).cell (p := ⟨B, 0, none⟩) hB).trans hc
  have E := Lib.hid E
  clear kb hc hlow hok
  obtain ⟨ya, yp, yz⟩ := y
  dsimp only at *
  go_enter Try.func37, Try.ntmps37
  go_wp2
  generalize W.alloc (.cells #[.int .i64 ya, .int .i64 yp, .int .i64 yz] 37) = w0 at *
  refine wp_region_quiet_below mixed (by kernel_rfl) ?_
  repeat (go_big_quiet_step (first | (go_at_call 38; refine calls_below (E.out _))))
  refine wpQuiet_nil ?_
  intro w0q hw'
  obtain ⟨⟨wq, bq⟩, hw''⟩ := hw'
  have hw2 : wq = w0q := hw''.symm
  clear hw''
  subst hw2
  have hb2 := bnext hb bq
  clear k0 k1 k2 kp
  go_wp2
  go_ret
  exact ⟨rfl, hb2⟩
end Go.Proofs.Ytgcbfiecgiijkaa
