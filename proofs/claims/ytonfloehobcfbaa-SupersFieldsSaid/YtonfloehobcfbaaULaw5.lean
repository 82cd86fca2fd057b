/- The walk of SupersFields. -/
import Derived.Test.YtonfloehobcfbaaUSame
namespace Go.Proofs.Ytonfloehobcfbaa
set_option linter.unusedVariables false
open Go.RowKit

theorem ext_same (s t : ByteArray) (a z : Nat) : ((s.extract a (a + z)).toList == (t.extract a (a + z)).toList) = decide (fieldAt s a z = fieldAt t a z) := by
  rw [ByteArray.toList_eq, ByteArray.toList_eq, extract_field, extract_field]
  by_cases h : fieldAt s a z = fieldAt t a z
  · rw [h]; simp
  · rw [decide_eq_false h, beq_eq_false_iff_ne]; exact h
theorem ext_field {s t : Sup} (h : SupOk s) (ht : SupOk t) (k : Nat) (hk : k < 10) : (((sup s).extract (8 + 4 * k) (12 + 4 * k)).toList == ((sup t).extract (8 + 4 * k) (12 + 4 * k)).toList) = (fldAt s k == fldAt t k) := by
  rw [show 12 + 4 * k = (8 + 4 * k) + 4 by omega, ext_same]
  by_cases e : fldAt s k = fldAt t k
  · rw [decide_eq_true ((field_same h ht k hk).2 e), e]; simp
  · rw [decide_eq_false (fun q => e ((field_same h ht k hk).1 q))]; symm; rw [beq_eq_false_iff_ne]; exact e
theorem ext_head (s t : Sup) : (((sup s).extract 0 8).toList == ((sup t).extract 0 8).toList) = true := by
  have := ext_same (sup s) (sup t) 0 8
  rw [sup_head, sup_head] at this
  rw [show 0 + 8 = 8 from rfl] at this
  rw [this]; simp
theorem ext_rest (s t : Sup) : (((sup s).extract 48 128).toList == ((sup t).extract 48 128).toList) = true := by
  have := ext_same (sup s) (sup t) 48 80
  rw [sup_rest, sup_rest] at this
  rw [show 48 + 80 = 128 from rfl] at this
  rw [this]; simp
theorem text_dec {s t : Sup} (h : SupOk s) (ht : SupOk t) : ((sup s).toList == (sup t).toList) = decide (s = t) := by
  by_cases e : s = t
  · subst e; simp
  · rw [decide_eq_false e]; exact supText_ne fun q => e (sup_inj h ht q)
set_option maxRecDepth 100000 in
set_option maxHeartbeats 8000000 in
theorem ufields_no (s t : Sup) (hn : ¬ (SupOk s ∧ SupOk t)) (w : World) :
    Calls Try.prog 6 #[supV s, supV t] w fun e w' => e = .returned (.bool true) ∧ Below w.heap.size w w' := by
  have AL := Lib.hid ualive_any
  have hb0 := balloc (balloc1 w (.cells (supC s) 23)) (.cells (supC t) 23)
  have hS0 : SupAt w.heap.size s ((w.alloc (.cells (supC s) 23)).alloc (.cells (supC t) 23)) := (Blk.new _ _ _).kept1 (balloc1 _ _)
  have hT0 : SupAt (w.heap.size + 1) t ((w.alloc (.cells (supC s) 23)).alloc (.cells (supC t) 23)) := by
    have := Blk.new (supC t) 23 (w.alloc (.cells (supC s) 23))
    rwa [size_alloc] at this
  obtain ⟨S, c, E⟩ : ∃ (S : ByteArray) (c : Int), (c = 0 ∨ c = 2) ∧ (c = 2 ∨ SupOk s) ∧ Hid (∀ w, Calls Try.prog 10 #[supV s] w fun e w' => e = .returned (.tuple #[.string S, .int .i64 c]) ∧ Below w.heap.size w w') := by
    by_cases h : SupOk s
    · exact ⟨_, 0, .inl rfl, .inr h, Lib.hid fun w => uenc_yes s h w⟩
    · exact ⟨_, 2, .inr rfl, .inl rfl, Lib.hid fun w => uenc_no s h w⟩
  obtain ⟨T, d, F⟩ : ∃ (S : ByteArray) (c : Int), (c = 0 ∨ c = 2) ∧ (c = 2 ∨ SupOk t) ∧ Hid (∀ w, Calls Try.prog 10 #[supV t] w fun e w' => e = .returned (.tuple #[.string S, .int .i64 c]) ∧ Below w.heap.size w w') := by
    by_cases h : SupOk t
    · exact ⟨_, 0, .inl rfl, .inr h, Lib.hid fun w => uenc_yes t h w⟩
    · exact ⟨_, 2, .inr rfl, .inl rfl, Lib.hid fun w => uenc_no t h w⟩
  obtain ⟨e1, e2, E⟩ := E
  obtain ⟨f1, f2, F⟩ := F
  have hcd : c = 2 ∨ (c = 0 ∧ d = 2) := by
    rcases e2 with h | h
    · exact .inl h
    · rcases f2 with k | k
      · rcases e1 with e1 | e1
        · exact .inr ⟨e1, k⟩
        · exact .inl e1
      · exact absurd ⟨h, k⟩ hn
  clear e1 e2 f1 f2 hn
  rcases hcd with rfl | ⟨rfl, rfl⟩
  all_goals
    go_enter Try.func6, Try.ntmps6
    go_wp2_with fail
    refine (E.out _).mono ?_; rintro e w1 ⟨rfl, b1⟩
    have hT1 := hT0.kept1 b1
    have hb1 := bnext hb0 b1
    obtain ⟨c0, c1, c2, c3, c4, c5, c6, c7, c8, c9⟩ := SupAt.cells hT1
    clear hS0 hT0 hb0 b1 hT1
    go_wp2_with fail
    refine (F.out _).mono ?_; rintro e w2 ⟨rfl, b2⟩
    have hb2 := bnext hb1 b2
    clear hb1 b2 c0 c1 c2 c3 c4 c5 c6 c7 c8 c9
    go_wp2_with fail
    refine (AL.out _).mono ?_; rintro e w9 ⟨rfl, b9⟩
    go_wp2
    go_ret
    exact ⟨rfl, bnext hb2 b9⟩
abbrev sameC (s t : Sup) : Array Value := #[.bool (s.blocks == t.blocks), .bool (s.log == t.log), .bool (s.inodes == t.inodes), .bool (s.cursor == t.cursor), .bool (s.inode == t.inode), .bool (s.logical == t.logical), .bool (s.from_ == t.from_), .bool (s.to_ == t.to_), .bool (s.len == t.len), .bool (s.moved == t.moved)]
theorem same_at {g : Nat} {s t : Sup} {w : World} (h : Blk g (sameC s t) 43 w) (j : Nat) (hj : j < 10) : w.cell? ⟨g, j, none⟩ = some (.bool (fldAt s j == fldAt t j)) := by
  rw [h.cell j]
  match j, hj with
  | 0, _ => rfl | 1, _ => rfl | 2, _ => rfl | 3, _ => rfl | 4, _ => rfl | 5, _ => rfl | 6, _ => rfl | 7, _ => rfl | 8, _ => rfl | 9, _ => rfl
set_option maxRecDepth 100000 in
set_option maxHeartbeats 8000000 in
theorem ufields_yes (s t : Sup) (h : SupOk s) (ht : SupOk t) (w : World) :
    Calls Try.prog 6 #[supV s, supV t] w fun e w' => e = .returned (.bool true) ∧ Below w.heap.size w w' := by
  have mixed : Try.prog.follows .mixedOrders = true := by kernel_rfl
  have AL := Lib.hid ualive_any
  have hb0 := balloc (balloc1 w (.cells (supC s) 23)) (.cells (supC t) 23)
  have hS0 : SupAt w.heap.size s ((w.alloc (.cells (supC s) 23)).alloc (.cells (supC t) 23)) := (Blk.new _ _ _).kept1 (balloc1 _ _)
  have hT0 : SupAt (w.heap.size + 1) t ((w.alloc (.cells (supC s) 23)).alloc (.cells (supC t) 23)) := by
    have := Blk.new (supC t) 23 (w.alloc (.cells (supC s) 23))
    rwa [size_alloc] at this
  have E := Lib.hid (fun w => uenc_yes s h w)
  have F := Lib.hid (fun w => uenc_yes t ht w)
  have SE := fun w => run_sup_eq s t w
  have TX := text_dec h ht
  have XF := Lib.hid (fun k hk => ext_field h ht k hk)
  have XH := ext_head s t
  have XR := ext_rest s t
  have zs := sup_size s
  have zt := sup_size t
  have HB : ∀ w g, Blk g (sameC s t) 43 w → ∀ j, j < 10 → w.cell? ⟨g, j, none⟩ = some (.bool (fldAt s j == fldAt t j)) := fun w g hb j hj => same_at hb j hj
  have HB := Lib.hid HB
  generalize sup s = S at *
  generalize sup t = T at *
  generalize decide (s = t) = d at *
  clear h ht
  go_enter Try.func6, Try.ntmps6
  go_wp2_with fail
  refine (E.out _).mono ?_; rintro e w1 ⟨rfl, b1⟩
  have hT1 := hT0.kept1 b1
  have hS1 := hS0.kept1 b1
  have hb1 := bnext hb0 b1
  obtain ⟨c0, c1, c2, c3, c4, c5, c6, c7, c8, c9⟩ := SupAt.cells hT1
  have HT1 := Lib.hid hT1
  have HS1 := Lib.hid hS1
  clear hS0 hT0 hb0 b1 hT1 hS1
  go_wp2_with fail
  refine (F.out _).mono ?_; rintro e w2 ⟨rfl, b2⟩
  have hb2 := bnext hb1 b2
  have hT2 := HT1.out.kept1 b2
  have hS2 := HS1.out.kept1 b2
  clear hb1 b2 c0 c1 c2 c3 c4 c5 c6 c7 c8 c9 HT1 HS1
  obtain ⟨c0, c1, c2, c3, c4, c5, c6, c7, c8, c9⟩ := SupAt.cells hS2
  obtain ⟨d0, d1, d2, d3, d4, d5, d6, d7, d8, d9⟩ := SupAt.cells hT2
  clear hS2 hT2
  have hSB : Blk w2.heap.size (sameC s t) 43 (w2.alloc (.cells (sameC s t) 43)) := Blk.new _ _ _
  have hb3 := balloc hb2 (.cells (sameC s t) 43)
  obtain ⟨a0, a1, a2, a3, a4, a5, a6, a7, a8, a9⟩ := s
  obtain ⟨e0, e1, e2, e3, e4, e5, e6, e7, e8, e9⟩ := t
  dsimp only at *
  obtain ⟨w3, hw3⟩ : ∃ w3, w2.alloc (.cells #[.bool (a0 == e0), .bool (a1 == e1), .bool (a2 == e2), .bool (a3 == e3), .bool (a4 == e4), .bool (a5 == e5), .bool (a6 == e6), .bool (a7 == e7), .bool (a8 == e8), .bool (a9 == e9)] 43) = w3 := ⟨_, rfl⟩
  have hSB : Blk w2.heap.size (sameC ⟨a0, a1, a2, a3, a4, a5, a6, a7, a8, a9⟩ ⟨e0, e1, e2, e3, e4, e5, e6, e7, e8, e9⟩) 43 w3 := by rw [← hw3]; exact hSB
  have hb33 : Below w.heap.size w w3 := by rw [← hw3]; exact hb3
  have hSB3 := hSB
  clear hb3
  have HW3 := Lib.hid hw3
  clear hw3
  go_upto_region 8 with fail
  rw [HW3.out]
  clear HW3 c0 c1 c2 c3 c4 c5 c6 c7 c8 c9 d0 d1 d2 d3 d4 d5 d6 d7 d8 d9 hb2
  generalize (⟨a0, a1, a2, a3, a4, a5, a6, a7, a8, a9⟩ : Sup) = s at *
  generalize (⟨e0, e1, e2, e3, e4, e5, e6, e7, e8, e9⟩ : Sup) = t at *
  go_wp2
  go_loopw [10] (fun q wr => ∃ k : Nat, q = .int .i64 k ∧ k ≤ 10 ∧ Blk w2.heap.size (sameC s t) 43 wr ∧ Below w.heap.size w wr) (fun q _ => 10 - (intOf q).toNat)
  case atStart => exact ⟨0, rfl, by omega, hSB3, hb33⟩
  case round =>
    clear hSB3 hb33
    obtain ⟨k, rfl, hk, hSB, hB⟩ := hrel
    by_cases hlt : k < 10
    · have hx := XF.out k hlt
      have hc := fun p : BelowP wr => HB.out p.to _ (hSB.kept1 p.h) k hlt
      generalize (fldAt s k == fldAt t k) = β at *
      have HSB := Lib.hid hSB
      clear hSB SE TX XF XH XR HB
      go_wp2
      refine wp_region_quiet_below mixed (by kernel_rfl) ?_
      repeat (go_big_quiet_step (fail))
      refine wpQuiet_nil ?_
      intro w0q hw'
      obtain ⟨⟨wq, bq⟩, hw''⟩ := hw'
      have hw2 : wq = w0q := hw''.symm
      clear hw''
      subst hw2
      have hB2 := bnext hB bq
      have hS2 := HSB.out.kept1 bq
      clear hB bq HSB hc hx
      go_wp2
      exact ⟨⟨k + 1, by go_num, by omega, hS2, hB2⟩, by simp [intOf]; omega⟩
    · obtain rfl : k = 10 := by omega
      clear hSB SE TX XF HB
      go_wp2
      refine wp_region_quiet_below mixed (by kernel_rfl) ?_
      repeat (go_big_quiet_step (first | (go_at_call 14; refine calls_below (AL.out _))))
      refine wpQuiet_nil ?_
      intro w0q hw'
      obtain ⟨⟨wq, bq⟩, hw''⟩ := hw'
      have hw2 : wq = w0q := hw''.symm
      clear hw''
      subst hw2
      have hB2 := bnext hB bq
      clear hB bq
      go_wp2
      go_ret
      exact ⟨rfl, hB2⟩
theorem ufields_walk (s t : Sup) (w : World) :
    Calls Try.prog 6 #[supV s, supV t] w fun e w' => e = .returned (.bool true) ∧ Below w.heap.size w w' := by
  by_cases h : SupOk s ∧ SupOk t
  · exact ufields_yes s t h.1 h.2 w
  · exact ufields_no s t h w
end Go.Proofs.Ytonfloehobcfbaa
