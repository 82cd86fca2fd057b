/- The document's Decode of any bytes; both Decodes. -/
import Derived.Test.YtfgjogaoogiddaaKRDec2
import Derived.Test.YtfgjogaoogiddaaKDec
namespace Go.Proofs.Ytfgjogaoogiddaa
set_option linter.unusedVariables false
open Go.RowKit

theorem rdec_any (s : ByteArray) (hs : s.size ≤ maxLen) (w : World) :
    Calls Try.prog 15 #[.string s] w fun e w' => RDecRet s w e w' := by
  by_cases h : s.size = 128 ∧ Begins s
  · by_cases h1 : kindOf s = 1
    · exact rdec_1 s h.1 h.2.2 h1 w
    by_cases h2 : kindOf s = 2
    · exact rdec_2 s h.1 h.2.2 h2 w
    by_cases h3 : kindOf s = 3
    · exact rdec_3 s h.1 h.2.2 h3 w
    by_cases h4 : kindOf s = 4
    · exact rdec_4 s h.1 h.2.2 h4 w
    exact rdec_0 s h.1 h.2.2 h1 h2 h3 h4 w
  · exact rdec_off s hs h w
/-- what Decode tells, as a record and a code: its lists are of the call's own -/
def DecR (R : Rec) (c : Int) (w : World) (e : Ending) (w' : World) : Prop := ∃ vh vm, e = .returned (.tuple #[recV R vh vm, .int .i64 c]) ∧ RecOwn w.heap.size R vh vm w' ∧ Below w.heap.size w w'
theorem dec_both (s : ByteArray) (hs : s.size ≤ maxLen) : ∃ (R : Rec) (c : Int), (∀ w, Calls Try.prog 14 #[.string s] w (DecR R c w)) ∧ (∀ w, Calls Try.prog 15 #[.string s] w (DecR R c w)) := by
  by_cases h : IsBlk s
  · exact ⟨readR s, 0, fun w => dec_yes s hs h w, fun w => (rdec_any s hs w).mono fun e w' ⟨h1, _, h3⟩ => by
      obtain ⟨vh, vm, he, ho⟩ := h1 h
      exact ⟨vh, vm, he, ho, h3⟩⟩
  · exact ⟨⟨0, 0, 0, [], [], 0⟩, 80, fun w => (dec_no s hs h w).mono fun e w' ⟨he, hb⟩ => ⟨.slice none 0 0, .slice none 0 0, he, ⟨World.ownsRow_nil _ _ _ _, World.ownsRow_nil _ _ _ _⟩, hb⟩,
      fun w => (rdec_any s hs w).mono fun e w' ⟨_, h2, h3⟩ => ⟨.slice none 0 0, .slice none 0 0, h2 h, ⟨World.ownsRow_nil _ _ _ _, World.ownsRow_nil _ _ _ _⟩, h3⟩⟩
end Go.Proofs.Ytfgjogaoogiddaa
