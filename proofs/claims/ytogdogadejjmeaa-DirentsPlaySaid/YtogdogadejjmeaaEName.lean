/- ContainsAny; misnamed. -/
import Derived.Test.YtogdogadejjmeaaECont
import Derived.Test.YtogdogadejjmeaaENum
namespace Go.Proofs.Ytogdogadejjmeaa
set_option linter.unusedVariables false
open Go.RowKit

theorem set_info : (Try.prog.info? (Try.contAny_ren.t 116)).map (fun i => (i.zero, i.size)) = some (some (.agg (Array.replicate 256 (.bool false))), 256) := by kernel_rfl
theorem idxAny_bar : ∀ l : List UInt8, decide (0 ≤ Lib.indexAny l [0, 47]) = !decide (∀ c ∈ l, charOk c)
  | [] => by simp [Lib.indexAny]
  | c :: l => by
    have ih := idxAny_bar l
    have hc : ([0, 47] : List UInt8).contains c = !decide (charOk c) := by rw [Lib.contains_iff_indexByte]; exact bar_one c
    have hg := Lib.indexAny_ge [0, 47] l
    rw [Lib.indexAny, hc]
    by_cases k : charOk c
    · have e : decide (∀ x ∈ c :: l, charOk x) = decide (∀ x ∈ l, charOk x) := by rw [decide_eq_decide]; simp [k]
      rw [e, ← ih, decide_eq_true k]
      simp only [Bool.not_true, Bool.false_eq_true, if_false]
      by_cases hm : Lib.indexAny l [0, 47] = -1
      · rw [hm]; simp
      · rw [if_neg (by simpa using hm), decide_eq_decide]; omega
    · have e : decide (∀ x ∈ c :: l, charOk x) = false := decide_eq_false fun h => k (h c (by simp))
      rw [e, decide_eq_false k]
      simp
theorem idxAny_any (s : ByteArray) (hs : s.size ≤ 1000) (w : World) :
    Calls Try.prog 59 #[.string s, .string ⟨#[0, 47]⟩] w fun e w' => ∃ r : Int, e = .returned (.int .i64 r) ∧ Hid (decide (0 ≤ r) = !decide (∀ c ∈ s.data.toList, charOk c)) ∧ Below w.heap.size w w' := by
  by_cases h8 : s.size ≤ 8
  · exact idxAny_short s h8 w
  · have h := Any.strings_IndexAny_long { Try.contAny with } (zero_of_info set_info).1 (zero_of_info set_info).2 s ⟨#[0, 47]⟩ w (by decide) (by omega) (by omega) (by decide) (fun j b hb => by
      have hm := List.mem_of_getElem? hb
      have hm : b ∈ ([0, 47] : List UInt8) := hm
      simp at hm
      rcases hm with rfl | rfl <;> decide)
    refine h.mono ?_
    rintro e w' ⟨he, hw⟩
    refine ⟨_, he, Lib.hid (idxAny_bar _), ?_⟩
    rw [hw]
    exact balloc (balloc1 w _) _
theorem cont_bar (s : ByteArray) (hs : s.size ≤ 1000) (w : World) :
    Calls Try.prog 50 #[.string s, .string ⟨#[0, 47]⟩] w fun e w' => e = .returned (.bool (!decide (∀ c ∈ s.data.toList, charOk c))) ∧ Below w.heap.size w w' := by
  have C := Lib.hid (idxAny_any s hs w)
  generalize (!decide (∀ c ∈ s.data.toList, charOk c)) = b at *
  go_enter Try.func50, Try.ntmps50
  go_wp2_with fail
  refine C.out.mono ?_; rintro e w2 ⟨r, rfl, hr, b2⟩
  go_wp2
  go_ret
  exact ⟨ret_bool hr.out, b2⟩
theorem misnamed_any (d : Den) (w : World) :
    Calls Try.prog 36 #[denV d] w fun e w' => e = .returned (.bool (!decide (NameOk d.name))) ∧ Below w.heap.size w w' := by
  have hb := balloc1 w (.cells (denC d) 25)
  by_cases h1 : 1 ≤ d.name.size
  · by_cases h2 : d.name.size ≤ 32
    · have C := fun w => cont_bar d.name (by omega) w
      have HR : Hid ((!decide (NameOk d.name)) = !decide (∀ c ∈ d.name.data.toList, charOk c)) := Lib.hid (by
        congr 1; rw [decide_eq_decide]; unfold NameOk; exact ⟨fun h => h.2, fun h => ⟨⟨h1, h2⟩, h⟩⟩)
      rw [HR.out]
      generalize (!decide (∀ c ∈ d.name.data.toList, charOk c)) = b at *
      have C := Lib.hid C
      obtain ⟨nm, n⟩ := d
      dsimp only at *
      have t1 : decide ((nm.size : Int) < 1) = false := decide_eq_false (by omega)
      have t2 : decide ((32 : Int) < (nm.size : Int)) = false := decide_eq_false (by omega)
      clear HR h1 h2
      go_enter Try.func36, Try.ntmps36
      go_wp2_with fail
      refine (C.out _).mono ?_; rintro e w2 ⟨rfl, b2⟩
      go_wp2
      go_ret
      exact ⟨rfl, bnext hb b2⟩
    · have HR : Hid ((!decide (NameOk d.name)) = true) := Lib.hid (by
        rw [Bool.not_eq_true', decide_eq_false_iff_not]; exact fun h => h2 h.1.2)
      rw [HR.out]
      obtain ⟨nm, n⟩ := d
      dsimp only at *
      have t1 : decide ((nm.size : Int) < 1) = false := decide_eq_false (by omega)
      have t2 : decide ((32 : Int) < (nm.size : Int)) = true := decide_eq_true (by omega)
      clear HR h1 h2
      go_enter Try.func36, Try.ntmps36
      go_wp2
      go_ret
      exact ⟨rfl, hb⟩
  · have HR : Hid ((!decide (NameOk d.name)) = true) := Lib.hid (by
      rw [Bool.not_eq_true', decide_eq_false_iff_not]; exact fun h => h1 h.1.1)
    rw [HR.out]
    obtain ⟨nm, n⟩ := d
    dsimp only at *
    have t1 : decide ((nm.size : Int) < 1) = true := decide_eq_true (by omega)
    clear HR h1
    go_enter Try.func36, Try.ntmps36
    go_wp2
    go_ret
    exact ⟨rfl, hb⟩
end Go.Proofs.Ytogdogadejjmeaa
