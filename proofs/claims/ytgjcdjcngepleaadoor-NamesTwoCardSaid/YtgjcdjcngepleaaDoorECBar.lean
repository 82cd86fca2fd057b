/- ContainsAny of a zero byte and a slash. -/
import Derived.Test.YtgjcdjcngepleaaDoorECont
namespace Go.Proofs.YtgjcdjcngepleaaDoor
set_option linter.unusedVariables false
open Go.RowKit

theorem set_info : (Tryd.prog.info? (Tryd.contAny_ren.t 116)).map (fun i => (i.zero, i.size)) = some (some (.agg (Array.replicate 256 (.bool false))), 256) := by kernel_rfl
theorem idxAny_bar : ∀ l : List UInt8, decide (0 ≤ Lib.indexAny l [0, 47]) = !decide (∀ c ∈ l, charOk c)
  | [] => by simp [Lib.indexAny]
  | c :: l => by
    have ih := idxAny_bar l
    have hc : ([0, 47] : List UInt8).contains c = !decide (charOk c) := by rw [Lib.contains_iff_indexByte]; exact bar_one c
    have hg := Lib.indexAny_ge [0, 47] l
    rw [Lib.indexAny, hc]
    by_cases k : charOk c
    · have e : decide (∀ x ∈ c :: l, charOk x) = decide (∀ x ∈ l, charOk x) := by rw [decide_eq_decide]; simp [k]
      rw [e, ← ih, decide_eq_true k]
      simp only [Bool.not_true, Bool.false_eq_true, if_false]
      by_cases hm : Lib.indexAny l [0, 47] = -1
      · rw [hm]; simp
      · rw [if_neg (by simpa using hm), decide_eq_decide]; omega
    · have e : decide (∀ x ∈ c :: l, charOk x) = false := decide_eq_false fun h => k (h c (by simp))
      rw [e, decide_eq_false k]
      simp
theorem idxAny_any (s : ByteArray) (hs : s.size ≤ 1000) (w : World) :
    Calls Tryd.prog 35 #[.string s, .string ⟨#[0, 47]⟩] w fun e w' => ∃ r : Int, e = .returned (.int .i64 r) ∧ Hid (decide (0 ≤ r) = !decide (∀ c ∈ s.data.toList, charOk c)) ∧ Below w.heap.size w w' := by
  by_cases h8 : s.size ≤ 8
  · exact idxAny_short s h8 w
  · have h := Any.strings_IndexAny_long { Tryd.contAny with } (zero_of_info set_info).1 (zero_of_info set_info).2 s ⟨#[0, 47]⟩ w (by decide) (by omega) (by omega) (by decide) (fun j b hb => by
      have hm := List.mem_of_getElem? hb
      have hm : b ∈ ([0, 47] : List UInt8) := hm
      simp at hm
      rcases hm with rfl | rfl <;> decide)
    refine h.mono ?_
    rintro e w' ⟨he, hw⟩
    refine ⟨_, he, Lib.hid (idxAny_bar _), ?_⟩
    rw [hw]
    exact balloc (balloc1 w _) _
theorem cont_bar (s : ByteArray) (hs : s.size ≤ 1000) (w : World) :
    Calls Tryd.prog 28 #[.string s, .string ⟨#[0, 47]⟩] w fun e w' => e = .returned (.bool (!decide (∀ c ∈ s.data.toList, charOk c))) ∧ Below w.heap.size w w' := by
  have C := Lib.hid (idxAny_any s hs w)
  generalize (!decide (∀ c ∈ s.data.toList, charOk c)) = b at *
  go_enter Tryd.func28, Tryd.ntmps28
  go_wp2_with fail
  refine C.out.mono ?_; rintro e w2 ⟨r, rfl, hr, b2⟩
  go_wp2
  go_ret
  exact ⟨ret_bool hr.out, b2⟩
end Go.Proofs.YtgjcdjcngepleaaDoor
