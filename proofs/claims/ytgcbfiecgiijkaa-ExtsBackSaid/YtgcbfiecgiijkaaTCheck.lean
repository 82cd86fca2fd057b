/- Check, the program's and the document's. -/
import Derived.Test.YtgcbfiecgiijkaaTNum
import Derived.Test.YtgcbfiecgiijkaaIRRow
namespace Go.Proofs.Ytgcbfiecgiijkaa
set_option linter.unusedVariables false
open Go.RowKit

theorem drop_eat {l : List Ent} {k : Nat} (h : k < l.length) : l.drop k = eat l k :: l.drop (k + 1) := by rw [List.drop_eq_getElem_cons h, eat_eq h]
theorem rise_drop_no {l : List Ent} {k : Nat} {F : Int} (h : k < l.length) (hn : ¬ (EntOk true (eat l k) ∧ F ≤ (eat l k).log)) : ¬ Rise F (l.drop k) := by
  rw [drop_eat h]; exact fun q => hn ⟨q.2.1, q.1⟩
theorem rise_drop_on {l : List Ent} {k : Nat} {F : Int} (h : k < l.length) (h1 : EntOk true (eat l k)) (h2 : F ≤ (eat l k).log) : Rise F (l.drop k) ↔ Rise ((eat l k).log + (eat l k).len) (l.drop (k + 1)) := by
  rw [drop_eat h]; exact ⟨fun q => q.2.2, fun q => ⟨h2, h1, q⟩⟩
set_option maxRecDepth 100000 in
set_option maxHeartbeats 4000000 in
theorem xcheck_any (l : List Ent) (hf : fitE l) (v : Value) (w : World) (hv : EntsIn v l w) :
    Calls Try.prog 16 #[v] w fun e w' => e = .returned (.bool (decide (RowOk true l))) ∧ Below w.heap.size w w' := by
  obtain ⟨ad, cap, rfl, c1, c2, c3, -⟩ := entsIn_cells hv
  have H3 := Lib.hid c3
  have H0 : Hid (RowOk true l ↔ Rise 0 (l.drop 0)) := Lib.hid (row_rise l)
  clear c3 hv
  go_enter Try.func16, Try.ntmps16
  go_wp2
  go_loopw [3, 8] (fun q p wr => ∃ (k : Nat) (F : Int), q = .int .i64 F ∧ p = .int .i64 k ∧ k ≤ l.length ∧ Hid (RowOk true l ↔ Rise F (l.drop k)) ∧ Below w.heap.size w wr) (fun _ p _ => l.length - (intOf p).toNat)
  case atStart => exact ⟨0, 0, rfl, rfl, Nat.zero_le _, H0, Below.refl _ _⟩
  case round =>
    obtain ⟨k, F, rfl, rfl, hk, HK, hb⟩ := hrel
    by_cases hlt : k < l.length
    · obtain ⟨g, o, rfl, hg, hc⟩ := H3.out (by omega)
      obtain ⟨x1, x2, x3⟩ := hc wr hb k hlt
      have hfk := fitE_at hf hlt
      have HNO : Hid (¬ (EntOk true (eat l k) ∧ F ≤ (eat l k).log) → decide (RowOk true l) = false) := Lib.hid fun h => decide_eq_false fun q => rise_drop_no hlt h (HK.out.1 q)
      have HON : Hid (EntOk true (eat l k) → F ≤ (eat l k).log → (RowOk true l ↔ Rise ((eat l k).log + (eat l k).len) (l.drop (k + 1)))) := Lib.hid fun a b => HK.out.trans (rise_drop_on hlt a b)
      have V := fun w => xvalid_any (eat l k) hfk.2.2 w
      have kb := fun p : BelowP (wr.alloc (.cells (entC (eat l k)) 37)) => ent_new wr (eat l k) 37 p
      have hb1 := balloc hb (.cells (entC (eat l k)) 37)
      have hF : ∀ p : BelowP (wr.alloc (.cells (entC (eat l k)) 37)), True := fun _ => trivial
      by_cases hok : EntOk true (eat l k)
      · rw [decide_eq_true hok] at V
        have V := Lib.hid V
        have hlow := entOk_low hok
        by_cases ha : F ≤ (eat l k).log
        · have HE := Lib.hid (HON.out hok ha)
          have t1 : decide ((eat l k).log < F) = false := decide_eq_false (by omega)
          have E := Lib.hid fun w => xend_any (eat l k) ⟨by omega, by omega⟩ w
          clear hok HNO HON ha HK hfk hc hlow hF
          generalize eat l k = yk at *
          obtain ⟨ea, ep, ez⟩ := yk
          dsimp only at *
          go_wp2_with fail
          refine (V.out _).mono ?_; rintro e w1 ⟨rfl, b1⟩
          have hb2 := bnext hb1 b1
          obtain ⟨k0, k1, k2⟩ := kb ⟨w1, b1⟩
          clear x1 x2 x3 kb
          go_wp2_with fail
          refine (E.out _).mono ?_; rintro e w2 ⟨rfl, b2⟩
          have hb3 := bnext hb2 b2
          clear k0 k1 k2
          go_wp2
          exact ⟨⟨k + 1, ea + ez, rfl, by go_num, by omega, HE, hb3⟩, by simp [intOf]; omega⟩
        · have HE := Lib.hid (HNO.out fun h => ha h.2)
          have t1 : decide ((eat l k).log < F) = true := decide_eq_true (by omega)
          clear hok HNO HON ha HK hfk hc hlow hF
          generalize eat l k = yk at *
          obtain ⟨ea, ep, ez⟩ := yk
          dsimp only at *
          go_wp2_with fail
          refine (V.out _).mono ?_; rintro e w1 ⟨rfl, b1⟩
          have hb2 := bnext hb1 b1
          obtain ⟨k0, k1, k2⟩ := kb ⟨w1, b1⟩
          clear x1 x2 x3 kb
          go_wp2
          go_ret
          exact ⟨ret_bool (by rw [HE.out]), hb2⟩
      · rw [decide_eq_false hok] at V
        have V := Lib.hid V
        have HE := Lib.hid (HNO.out fun h => hok h.1)
        clear hok HNO HON HK hfk hc hF
        generalize eat l k = yk at *
        obtain ⟨ea, ep, ez⟩ := yk
        dsimp only at *
        go_wp2_with fail
        refine (V.out _).mono ?_; rintro e w1 ⟨rfl, b1⟩
        have hb2 := bnext hb1 b1
        clear x1 x2 x3 kb
        go_wp2
        go_ret
        exact ⟨ret_bool (by rw [HE.out]), hb2⟩
    · obtain rfl : k = l.length := by omega
      have HE : Hid (decide (RowOk true l) = true) := Lib.hid (decide_eq_true (HK.out.2 (by rw [List.drop_length]; trivial)))
      go_wp2
      go_ret
      exact ⟨ret_bool (by rw [HE.out]), hb⟩
end Go.Proofs.Ytgcbfiecgiijkaa
