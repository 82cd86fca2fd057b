/- What Punch and Cut leave. -/
import Derived.Test.YtgcbfiecgiijkaaTLaw3M
namespace Go.Proofs.Ytgcbfiecgiijkaa
set_option linter.unusedVariables false
set_option linter.unusedSimpArgs false
open Go.RowKit Go.Shelf

theorem cut_map {l : List Ent} (h : Rise 0 l) {f : Int} (h0 : 0 ≤ f) (p : Int) : mapX (cutX l f) p = if f ≤ p then none else mapX l p := by
  obtain ⟨k1, k2⟩ := lowC_ok h0
  have hh : ∀ q, 2048 ≤ q → mapX l q = none := fun q hq => mapX_high (c := 2048) (fun e he => by have := (entT e).1 (h.mem e he).1; omega) hq
  unfold cutX
  rw [punch_map h k1 k2]
  by_cases c : f ≤ p
  · rw [if_pos c]
    by_cases c2 : lowC f ≤ p ∧ p < 2048
    · rw [if_pos c2]
    · rw [if_neg c2]; exact hh p (by unfold lowC at c2; omega)
  · rw [if_neg c]
    by_cases c2 : lowC f ≤ p ∧ p < 2048
    · exfalso; unfold lowC at c2; omega
    · rw [if_neg c2]
theorem cut_end' {l : List Ent} (h : Rise 0 l) {f : Int} (h0 : 0 ≤ f) : endX (cutX l f) ≤ min (endX l) f := by
  obtain ⟨k1, k2⟩ := lowC_ok h0
  have := cut_end h k1
  unfold cutX
  unfold lowC at *
  omega
theorem pun_rise {l : List Ent} (h : Rise 0 l) {a n : Int} (hp : PunOk l a n) : Rise 0 (punX l a n) := by
  have := hp.2
  unfold punX
  by_cases c : n = 0
  · rw [if_pos c]; exact h
  · rw [if_neg c]; exact punch_rise h (by omega) (by omega)
theorem pun_len {l : List Ent} {a n : Int} (h : l.length ≤ 200) : (punX l a n).length ≤ 401 := by
  unfold punX
  by_cases c : n = 0
  · rw [if_pos c]; omega
  · rw [if_neg c]; have := change_len l a (a + n) []; simp only [List.length_nil] at this; omega
theorem pun_map {l : List Ent} (h : Rise 0 l) {a n : Int} (hp : PunOk l a n) (p : Int) : mapX (punX l a n) p = if a ≤ p ∧ p < a + n then none else mapX l p := by
  have := hp.2
  unfold punX
  by_cases c : n = 0
  · rw [if_pos c, if_neg (by omega)]
  · rw [if_neg c]; exact punch_map h (by omega) (by omega) p
end Go.Proofs.Ytgcbfiecgiijkaa
