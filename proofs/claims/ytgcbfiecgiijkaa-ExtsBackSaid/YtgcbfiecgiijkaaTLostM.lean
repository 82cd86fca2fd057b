/- What is freed, as the program reckons it; Cut: no program is named here. -/
import Derived.Test.YtgcbfiecgiijkaaTMath
namespace Go.Proofs.Ytgcbfiecgiijkaa
set_option linter.unusedVariables false

theorem keep_elem {b0 : Int} {l : List Ent} (h : Rise b0 l) (c d : Int) (i : Int) : elemR (physR (keep l c d)) i ↔ ∃ p, c ≤ p ∧ p < d ∧ mapX l p = some i := by
  rw [elem_map (keep_rise h c d).1]
  constructor
  · rintro ⟨p, hp⟩
    rw [mapX_keep h] at hp
    by_cases k : c ≤ p ∧ p < d
    · rw [if_pos k] at hp; exact ⟨p, k.1, k.2, hp⟩
    · rw [if_neg k] at hp; cases hp
  · rintro ⟨p, h1, h2, hp⟩
    exact ⟨p, by rw [mapX_keep h, if_pos ⟨h1, h2⟩]; exact hp⟩
section
variable {l : List Ent} {a b : Int} {m : List Ent}
theorem lost_same (h : Rise 0 l) (h0 : 0 ≤ a) (hab : a ≤ b) (hm : Rise a m) (hmb : ∀ e ∈ m, e.log + e.len ≤ b) : minusR (blocksX (keep l a b)) (blocksX (change l a b m)) = freedX l (change l a b m) := by
  refine norm_one (minus_norm _ _) (minus_norm _ _) fun i => ?_
  show elemR (minusR _ _) i ↔ elemR (freedX _ _) i
  rw [minus_elem, freed_elem]
  unfold blocksX
  rw [norm_elem, norm_elem, keep_elem h, elem_map h]
  constructor
  · rintro ⟨⟨p, -, -, hp⟩, hn⟩; exact ⟨⟨p, hp⟩, hn⟩
  · rintro ⟨⟨p, hp⟩, hn⟩
    refine ⟨?_, hn⟩
    by_cases k : a ≤ p ∧ p < b
    · exact ⟨p, k.1, k.2, hp⟩
    · exfalso
      refine hn ((elem_map (change_rise h h0 hab hm hmb) i).2 ⟨p, ?_⟩)
      rw [change_map h h0 hab hm hmb, if_neg k]; exact hp
theorem lost_nothing (h : Rise 0 l) (h0 : 0 ≤ a) (hab : a ≤ b) (hm : Rise a m) (hmb : ∀ e ∈ m, e.log + e.len ≤ b) (he : keep l a b = []) : freedX l (change l a b m) = [] := by
  rw [← lost_same h h0 hab hm hmb, he]
  refine norm_one (minus_norm _ _) (Norm.nil (-1)) fun i => ?_
  show elemR (minusR _ _) i ↔ _
  rw [minus_elem]
  unfold blocksX
  rw [norm_elem]
  exact ⟨fun q => absurd q.1 (elemR_nil i), fun q => absurd q (elemR_nil i)⟩
end
/-- what the program tells as lost -/
def lostX (R O : List Ent) : List (Int × Int) := if R.length = 0 then [] else minusR (blocksX R) (blocksX O)
theorem lostX_is {l : List Ent} (h : Rise 0 l) {a b : Int} (h0 : 0 ≤ a) (hab : a ≤ b) {m : List Ent} (hm : Rise a m) (hmb : ∀ e ∈ m, e.log + e.len ≤ b) : lostX (keep l a b) (change l a b m) = freedX l (change l a b m) := by
  unfold lostX
  by_cases he : (keep l a b).length = 0
  · rw [if_pos he, lost_nothing h h0 hab hm hmb (List.length_eq_zero_iff.1 he)]
  · rw [if_neg he, lost_same h h0 hab hm hmb]
/-! ### Cut: all from one on -/
def lowC (f : Int) : Int := min f 2048
theorem keep_low0 {l : List Ent} (h : Rise 0 l) (f : Int) : keep l 0 f = keep l 0 (lowC f) := by
  unfold lowC
  by_cases c : f ≤ 2048
  · rw [show min f 2048 = f by omega]
  · have hd : ∀ e ∈ l, e.log + e.len ≤ 2048 := fun e he => by have := (entT e).1 (h.mem e he).1; omega
    rw [show min f 2048 = 2048 by omega, keep_all h (Int.le_refl _) hd, keep_all h (Int.le_refl _) fun e he => by have := hd e he; omega]
theorem keep_low1 {l : List Ent} (h : Rise 0 l) (f : Int) : keep l f 2048 = keep l (lowC f) 2048 := by
  unfold lowC
  by_cases c : f ≤ 2048
  · rw [show min f 2048 = f by omega]
  · rw [show min f 2048 = 2048 by omega, keep_empty l (by omega), keep_empty l (by omega)]
def cutX (l : List Ent) (f : Int) : List Ent := change l (lowC f) 2048 []
theorem cutX_is {l : List Ent} (h : Rise 0 l) (f : Int) : cutX l f = keep l 0 f := by
  unfold cutX change
  rw [keep_low0 h f, keep_empty l (c := 2048) (d := 2048) (by omega)]; simp
theorem lowC_ok {f : Int} (h : 0 ≤ f) : 0 ≤ lowC f ∧ lowC f ≤ 2048 := by unfold lowC; omega
theorem nilOk (a b : Int) : Rise a [] ∧ ∀ e ∈ ([] : List Ent), e.log + e.len ≤ b := ⟨trivial, fun e he => by simp at he⟩
theorem change_len (l : List Ent) (a b : Int) (m : List Ent) : (change l a b m).length ≤ 2 * l.length + m.length := by
  have h : ∀ c d, (keep l c d).length ≤ l.length := fun c d => by unfold keep; exact List.length_filterMap_le _ _
  have h1 := h 0 a; have h2 := h b 2048
  unfold change; simp only [List.length_append]; omega
theorem phys_fit {l : List Ent} (h : ∀ e ∈ l, EntOk true e) : ∀ r ∈ physR l, (-9223372036854775808 ≤ r.1 ∧ r.1 ≤ 9223372036854775807) ∧ (-9223372036854775808 ≤ r.2 ∧ r.2 ≤ 9223372036854775807) := by
  intro r hr
  unfold physR at hr
  obtain ⟨e, he, rfl⟩ := List.mem_map.1 hr
  have := entOk_low (h e he)
  unfold phR
  exact ⟨⟨by show _ ≤ e.phys; omega, by show e.phys ≤ _; omega⟩, by show _ ≤ e.len; omega, by show e.len ≤ _; omega⟩
theorem phys_len (l : List Ent) : (physR l).length = l.length := by unfold physR; simp
end Go.Proofs.Ytgcbfiecgiijkaa
