/- The document's Decode: what is no block, and the kinds without lists. -/
import Derived.Test.YtfgjogaoogiddaaKDec
import Derived.Test.YtfgjogaoogiddaaKREncL
import Derived.Test.YtfgjogaoogiddaaKAlive
namespace Go.Proofs.Ytfgjogaoogiddaa
set_option linter.unusedVariables false
open Go.RowKit

/-- what the document's Decode tells -/
def RDecRet (s : ByteArray) (w : World) (e : Ending) (w' : World) : Prop :=
  (IsBlk s → ∃ vh vm, e = .returned (.tuple #[recV (readR s) vh vm, .int .i64 0]) ∧ RecOwn w.heap.size (readR s) vh vm w') ∧ (¬ IsBlk s → e = badDec) ∧ Below w.heap.size w w'
theorem isBlk_size {s : ByteArray} (h : IsBlk s) : s.size = 128 := by rw [← h.2.2]; exact blk_size h.2.1
theorem readF_of {s : ByteArray} (h : IsBlk s) : readF s = readR s := by
  have := (blk_read h.2.1 (fits_read s)).2.2
  rwa [h.2.2] at this
theorem fits_readF (s : ByteArray) : Fits (readF s) := by
  have k := leN_field_lt s 4 1
  have q := leN_field_lt s 5 8
  have p := leN_field_lt s 13 2
  have m := leN_field_lt s 13 4
  have h4 : (256 : Nat) ^ 8 = 18446744073709551616 := by decide
  have kk : kindOf s < 256 := k
  refine ⟨?_, ?_, ?_, ?_, ?_⟩
  · show _ ≤ (kindOf s : Int) ∧ (kindOf s : Int) ≤ _; omega
  · show leN (fieldAt s 5 8) < _; omega
  · show _ ≤ (if kindOf s = 1 then (leN (fieldAt s 13 2) : Int) else 0) ∧ (if kindOf s = 1 then (leN (fieldAt s 13 2) : Int) else 0) ≤ _
    split <;> omega
  · intro x hx
    have hx : x ∈ (if kindOf s = 2 ∨ kindOf s = 3 then homesOf s (min (countOf s) 40) else []) := hx
    split at hx
    · unfold homesOf at hx
      obtain ⟨i, hi, rfl⟩ := List.mem_map.1 hx
      have := leN_field_lt s (14 + 2 * i) 2
      unfold homeOf; omega
    · cases hx
  · show (if kindOf s = 4 then leN (fieldAt s 13 4) else 0) < _
    split <;> omega
/-- the three ways out behind its Encode -/
theorem rdec_ways (s : ByteArray) : ∃ (T : ByteArray) (c : Int), (∀ vh vm w, RecIn (readF s) vh vm w → Calls Try.prog 11 #[recV (readF s) vh vm] w fun e w' => e = .returned (.tuple #[.string T, .int .i64 c]) ∧ Below w.heap.size w w') ∧
    ((IsBlk s ∧ c = 0 ∧ T = s ∧ readR s = readF s) ∨ (¬ IsBlk s ∧ c = 0 ∧ (T.toList == s.toList) = false) ∨ (¬ IsBlk s ∧ c = 2)) := by
  have f := fits_readF s
  by_cases h : RecOk (readF s)
  · refine ⟨blk (readF s), 0, fun vh vm w hr => renc_yes _ h f vh vm w hr, ?_⟩
    by_cases e : blk (readF s) = s
    · have hb := (isBlk_of h f).1
      rw [e] at hb
      exact .inl ⟨hb, rfl, e, (readF_of hb).symm⟩
    · exact .inr (.inl ⟨fun hb => e (by rw [readF_of hb]; exact hb.2.2), rfl, text_ne e⟩)
  · exact ⟨⟨#[]⟩, 2, fun vh vm w hr => renc_no _ h f vh vm w hr, .inr (.inr ⟨fun hb => h (by rw [readF_of hb]; exact hb.2.1), rfl⟩)⟩
set_option maxRecDepth 100000 in
theorem rdec_off (s : ByteArray) (hs : s.size ≤ maxLen) (h : ¬ (s.size = 128 ∧ Begins s)) (w : World) :
    Calls Try.prog 15 #[.string s] w fun e w' => RDecRet s w e w' := by
  have gh : Try.prog.stoodInHeld 27 = false := by kernel_rfl
  have hno : ¬ IsBlk s := fun k => h ⟨isBlk_size k, isBlk_begins k⟩
  have HN := Lib.hid hno
  unfold maxLen at hs
  by_cases hz : s.size = 128
  · have hb : begB s = false := by
      by_cases k : begB s = true
      · exact absurd ⟨hz, by omega, k⟩ h
      · exact (Bool.not_eq_true _).mp k
    have hb' : ((s.extract 0 4).toList == [71, 76, 74, 119]) = false := hb
    clear h hb hno
    go_enter Try.func15, Try.ntmps15
    go_wp2_with (refine wpList_store_rec (q := 0) (s := 0) rfl _ _ rfl rfl rfl _ rfl (Blk.new _ _ w) ?_)
    intro w2 h2 hl2 hs2 _
    obtain ⟨y0, y1, y2, y3, y4, y5⟩ := rec_cells h2
    have hbe : Below w.heap.size w w2 := (balloc1 w _).trans hl2
    clear hl2 hs2
    go_wp2
    refine bodyPost_ret (v := .tuple #[noR, .int .i64 80]) ?_ rfl ⟨fun k => absurd k HN.out, fun _ => rfl, hbe⟩
    rw [results_cell_tmp rfl]
    go_simp
  · have d : ((s.size : Int) != 128) = true := by rw [bne_iff_ne]; omega
    clear h hz hno
    go_enter Try.func15, Try.ntmps15
    go_wp2_with (refine wpList_store_rec (q := 0) (s := 0) rfl _ _ rfl rfl rfl _ rfl (Blk.new _ _ w) ?_)
    intro w2 h2 hl2 hs2 _
    obtain ⟨y0, y1, y2, y3, y4, y5⟩ := rec_cells h2
    have hbe : Below w.heap.size w w2 := (balloc1 w _).trans hl2
    clear hl2 hs2
    go_wp2
    refine bodyPost_ret (v := .tuple #[noR, .int .i64 80]) ?_ rfl ⟨fun k => absurd k HN.out, fun _ => rfl, hbe⟩
    rw [results_cell_tmp rfl]
    go_simp
theorem byte_of (s : ByteArray) (a : Nat) (h : a < s.size) : leN (fieldAt s a 1) = (s[a]'h).toNat := by
  rw [fieldAt_succ s a 0 (by omega)]
  have : fieldAt s a 0 = [] := by unfold fieldAt; simp
  rw [this]; simp [leN]
set_option maxRecDepth 100000 in
set_option maxHeartbeats 4000000 in
theorem rdec_0 (s : ByteArray) (hz : s.size = 128) (hb : begB s = true) (h1 : kindOf s ≠ 1) (h2 : kindOf s ≠ 2) (h3 : kindOf s ≠ 3) (h4 : kindOf s ≠ 4) (w : World) :
    Calls Try.prog 15 #[.string s] w fun e w' => RDecRet s w e w' := by
  have gh : Try.prog.stoodInHeld 27 = false := by kernel_rfl
  have hb' : ((s.extract 0 4).toList == [71, 76, 74, 119]) = true := hb
  have hmax : s.size ≤ maxLen := by rw [hz]; unfold maxLen; omega
  have GS : Hid (∀ w, Calls Try.prog 31 #[.string s, .int .i64 5, .int .i64 8] w fun e w' => e = .returned (.tuple #[.int .u64 (leN (fieldAt s 5 8) : Int), .bool true]) ∧ w = w') := Lib.hid fun w => rget_yes s hmax 5 8 (by omega) (by omega) w
  have hk : (s[4]'(by omega)).toNat = kindOf s := (byte_of s 4 (by omega)).symm
  have hc : (s[13]'(by omega)).toNat = countOf s := (byte_of s 13 (by omega)).symm
  have hkb : kindOf s < 256 := leN_field_lt s 4 1
  have hcb : countOf s < 256 := leN_field_lt s 13 1
  have hqb : leN (fieldAt s 5 8) < 18446744073709551616 := by
    have q := leN_field_lt s 5 8
    have h4 : (256 : Nat) ^ 8 = 18446744073709551616 := by decide
    omega
  obtain ⟨T, c, EE, hw⟩ := rdec_ways s
  have hF : readF s = ⟨(kindOf s : Int), leN (fieldAt s 5 8), 0, [], [], 0⟩ := by unfold readF; simp [h1, h2, h3, h4]
  rw [hF] at EE hw
  have d1 : ((kindOf s : Int) == 1) = false := by rw [beq_eq_false_iff_ne]; omega
  have d2 : ((kindOf s : Int) == 2) = false := by rw [beq_eq_false_iff_ne]; omega
  have d3 : ((kindOf s : Int) == 3) = false := by rw [beq_eq_false_iff_ne]; omega
  have d4 : ((kindOf s : Int) == 4) = false := by rw [beq_eq_false_iff_ne]; omega
  have hw := Lib.hid hw
  generalize leN (fieldAt s 5 8) = seq at *
  generalize kindOf s = k at *
  clear h1 h2 h3 h4
  obtain ⟨w0, hw0⟩ : ∃ w0, (w.alloc (.cells zC 27)).alloc (.cells #[.int .i64 ((k : Int)), .int .u64 (seq : Int), .int .i64 (0), .slice none 0 0, .slice none 0 0, .int .u32 (0)] 27) = w0 := ⟨_, rfl⟩
  have HB : Hid (Below w.heap.size w w0) := Lib.hid (by rw [← hw0]; exact balloc (balloc1 w _) _)
  have HZ : Hid (Blk w.heap.size zC 27 w0) := Lib.hid (by rw [← hw0]; exact (Blk.new _ _ w).kept1 (balloc1 _ _))
  have HR : Hid (RecAt (w.heap.size + 1) ((k : Int)) seq (0) (.slice none 0 0) (.slice none 0 0) 0 w0) := Lib.hid (by
    rw [← hw0]
    have := Blk.new #[.int .i64 ((k : Int)), .int .u64 (seq : Int), .int .i64 (0), .slice none 0 0, .slice none 0 0, .int .u32 (0)] 27 (w.alloc (.cells zC 27))
    rw [size_alloc] at this
    exact this)
  have HS0 : Hid (w0.heap.size = w.heap.size + 2) := Lib.hid (by rw [← hw0, size_alloc, size_alloc])
  have RO : Hid (RecOwn w0.heap.size ⟨(k : Int), seq, 0, [], [], 0⟩ (.slice none 0 0) (.slice none 0 0) w0) := Lib.hid ⟨World.ownsRow_nil _ _ _ _, World.ownsRow_nil _ _ _ _⟩
  have EX := Lib.hid (EE _ _ w0 RO.out.isIn)
  have HW0 := Lib.hid hw0
  clear hw0 EE hF hmax hb
  go_enter Try.func15, Try.ntmps15
  go_wp2_with fail
  refine (GS.out _).mono ?_; rintro e w1 ⟨rfl, rfl⟩
  go_wp2_with fail
  rw [HW0.out]
  refine EX.out.mono ?_; rintro e wE ⟨rfl, b⟩
  have hZ1 := HZ.out.kept1 b
  have hR1 := HR.out.kept1 b
  have hO1 := RO.out.kept b
  have hb1 := bnext HB.out b
  clear EX b
  rcases hw.out with ⟨yes, rfl, rfl, hr⟩ | ⟨no, rfl, hd⟩ | ⟨no, rfl⟩
  · have HY := Lib.hid (And.intro yes hr)
    have HO := Lib.hid hO1
    obtain ⟨x0, x1, x2, x3, x4, x5⟩ := rec_cells hR1
    clear yes hr hO1 hw
    go_wp2_with (refine wpList_store_rec (q := seq) (s := 0) rfl _ _ rfl rfl rfl _ rfl hZ1 ?_)
    intro w5 h5 hl5 hs5 he5
    obtain ⟨y0, y1, y2, y3, y4, y5⟩ := rec_cells h5
    have hbe := hb1.trans hl5
    have HO5 : Hid (RecOwn w0.heap.size ⟨(k : Int), seq, 0, [], [], 0⟩ (.slice none 0 0) (.slice none 0 0) w5) := Lib.hid ⟨row_same HO.out.1 fun j hj => he5 j (by have := HS0.out; omega), row_same HO.out.2 fun j hj => he5 j (by have := HS0.out; omega)⟩
    clear hl5 hs5 he5 hR1 hZ1 hb1
    go_wp2
    refine bodyPost_ret (v := .tuple #[recA (k) (seq) (0) (.slice none 0 0) (.slice none 0 0) (0), .int .i64 0]) ?_ rfl ⟨fun _ => ⟨.slice none 0 0, .slice none 0 0, by rw [HY.out.2], by rw [HY.out.2]; exact HO5.out.down (by have := HS0.out; omega)⟩, fun k => absurd HY.out.1 k, hbe⟩
    rw [results_cell_tmp rfl]
    go_simp
  · have HN := Lib.hid no
    clear no hw hO1 hR1
    go_wp2_with (refine wpList_store_rec (q := 0) (s := 0) rfl _ _ rfl rfl rfl _ rfl hZ1 ?_)
    intro w5 h5 hl5 hs5 he5
    obtain ⟨y0, y1, y2, y3, y4, y5⟩ := rec_cells h5
    have hbe := hb1.trans hl5
    clear hl5 hs5 he5 hZ1 hb1
    go_wp2
    refine bodyPost_ret (v := .tuple #[noR, .int .i64 80]) ?_ rfl ⟨fun k => absurd k HN.out, fun _ => rfl, hbe⟩
    rw [results_cell_tmp rfl]
    go_simp
  · have HN := Lib.hid no
    clear no hw hO1 hR1
    go_wp2_with (refine wpList_store_rec (q := 0) (s := 0) rfl _ _ rfl rfl rfl _ rfl hZ1 ?_)
    intro w5 h5 hl5 hs5 he5
    obtain ⟨y0, y1, y2, y3, y4, y5⟩ := rec_cells h5
    have hbe := hb1.trans hl5
    clear hl5 hs5 he5 hZ1 hb1
    go_wp2
    refine bodyPost_ret (v := .tuple #[noR, .int .i64 80]) ?_ rfl ⟨fun k => absurd k HN.out, fun _ => rfl, hbe⟩
    rw [results_cell_tmp rfl]
    go_simp
set_option maxRecDepth 100000 in
set_option maxHeartbeats 4000000 in
theorem rdec_1 (s : ByteArray) (hz : s.size = 128) (hb : begB s = true) (h1 : kindOf s = 1) (w : World) :
    Calls Try.prog 15 #[.string s] w fun e w' => RDecRet s w e w' := by
  have gh : Try.prog.stoodInHeld 27 = false := by kernel_rfl
  have hb' : ((s.extract 0 4).toList == [71, 76, 74, 119]) = true := hb
  have hmax : s.size ≤ maxLen := by rw [hz]; unfold maxLen; omega
  have GS : Hid (∀ w, Calls Try.prog 31 #[.string s, .int .i64 5, .int .i64 8] w fun e w' => e = .returned (.tuple #[.int .u64 (leN (fieldAt s 5 8) : Int), .bool true]) ∧ w = w') := Lib.hid fun w => rget_yes s hmax 5 8 (by omega) (by omega) w
  have hk : (s[4]'(by omega)).toNat = kindOf s := (byte_of s 4 (by omega)).symm
  have hc : (s[13]'(by omega)).toNat = countOf s := (byte_of s 13 (by omega)).symm
  have hkb : kindOf s < 256 := leN_field_lt s 4 1
  have hcb : countOf s < 256 := leN_field_lt s 13 1
  have hqb : leN (fieldAt s 5 8) < 18446744073709551616 := by
    have q := leN_field_lt s 5 8
    have h4 : (256 : Nat) ^ 8 = 18446744073709551616 := by decide
    omega
  obtain ⟨T, c, EE, hw⟩ := rdec_ways s
  have hF : readF s = ⟨1, leN (fieldAt s 5 8), (leN (fieldAt s 13 2) : Int), [], [], 0⟩ := by unfold readF; simp [h1]
  rw [hF] at EE hw
  have G2 : Hid (∀ w, Calls Try.prog 31 #[.string s, .int .i64 13, .int .i64 2] w fun e w' => e = .returned (.tuple #[.int .u64 (leN (fieldAt s 13 2) : Int), .bool true]) ∧ w = w') := Lib.hid fun w => rget_yes s hmax 13 2 (by omega) (by omega) w
  have hv : leN (fieldAt s 13 2) < 65536 := by have := leN_field_lt s 13 2; omega
  rw [h1] at hk hkb
  have hw := Lib.hid hw
  generalize leN (fieldAt s 5 8) = seq at *
  generalize leN (fieldAt s 13 2) = v at *
  clear h1
  obtain ⟨w0, hw0⟩ : ∃ w0, (w.alloc (.cells zC 27)).alloc (.cells #[.int .i64 (1), .int .u64 (seq : Int), .int .i64 ((v : Int)), .slice none 0 0, .slice none 0 0, .int .u32 (0)] 27) = w0 := ⟨_, rfl⟩
  have HB : Hid (Below w.heap.size w w0) := Lib.hid (by rw [← hw0]; exact balloc (balloc1 w _) _)
  have HZ : Hid (Blk w.heap.size zC 27 w0) := Lib.hid (by rw [← hw0]; exact (Blk.new _ _ w).kept1 (balloc1 _ _))
  have HR : Hid (RecAt (w.heap.size + 1) (1) seq ((v : Int)) (.slice none 0 0) (.slice none 0 0) 0 w0) := Lib.hid (by
    rw [← hw0]
    have := Blk.new #[.int .i64 (1), .int .u64 (seq : Int), .int .i64 ((v : Int)), .slice none 0 0, .slice none 0 0, .int .u32 (0)] 27 (w.alloc (.cells zC 27))
    rw [size_alloc] at this
    exact this)
  have HS0 : Hid (w0.heap.size = w.heap.size + 2) := Lib.hid (by rw [← hw0, size_alloc, size_alloc])
  have RO : Hid (RecOwn w0.heap.size ⟨1, seq, (v : Int), [], [], 0⟩ (.slice none 0 0) (.slice none 0 0) w0) := Lib.hid ⟨World.ownsRow_nil _ _ _ _, World.ownsRow_nil _ _ _ _⟩
  have EX := Lib.hid (EE _ _ w0 RO.out.isIn)
  have HW0 := Lib.hid hw0
  clear hw0 EE hF hmax hb
  go_enter Try.func15, Try.ntmps15
  go_wp2_with fail
  refine (GS.out _).mono ?_; rintro e w1 ⟨rfl, rfl⟩
  go_wp2_with fail
  refine (G2.out _).mono ?_; rintro e w1 ⟨rfl, rfl⟩
  go_wp2_with fail
  rw [HW0.out]
  refine EX.out.mono ?_; rintro e wE ⟨rfl, b⟩
  have hZ1 := HZ.out.kept1 b
  have hR1 := HR.out.kept1 b
  have hO1 := RO.out.kept b
  have hb1 := bnext HB.out b
  clear EX b
  rcases hw.out with ⟨yes, rfl, rfl, hr⟩ | ⟨no, rfl, hd⟩ | ⟨no, rfl⟩
  · have HY := Lib.hid (And.intro yes hr)
    have HO := Lib.hid hO1
    obtain ⟨x0, x1, x2, x3, x4, x5⟩ := rec_cells hR1
    clear yes hr hO1 hw
    go_wp2_with (refine wpList_store_rec (q := seq) (s := 0) rfl _ _ rfl rfl rfl _ rfl hZ1 ?_)
    intro w5 h5 hl5 hs5 he5
    obtain ⟨y0, y1, y2, y3, y4, y5⟩ := rec_cells h5
    have hbe := hb1.trans hl5
    have HO5 : Hid (RecOwn w0.heap.size ⟨1, seq, (v : Int), [], [], 0⟩ (.slice none 0 0) (.slice none 0 0) w5) := Lib.hid ⟨row_same HO.out.1 fun j hj => he5 j (by have := HS0.out; omega), row_same HO.out.2 fun j hj => he5 j (by have := HS0.out; omega)⟩
    clear hl5 hs5 he5 hR1 hZ1 hb1
    go_wp2
    refine bodyPost_ret (v := .tuple #[recA (1) (seq) ((v : Int)) (.slice none 0 0) (.slice none 0 0) (0), .int .i64 0]) ?_ rfl ⟨fun _ => ⟨.slice none 0 0, .slice none 0 0, by rw [HY.out.2], by rw [HY.out.2]; exact HO5.out.down (by have := HS0.out; omega)⟩, fun k => absurd HY.out.1 k, hbe⟩
    rw [results_cell_tmp rfl]
    go_simp
  · have HN := Lib.hid no
    clear no hw hO1 hR1
    go_wp2_with (refine wpList_store_rec (q := 0) (s := 0) rfl _ _ rfl rfl rfl _ rfl hZ1 ?_)
    intro w5 h5 hl5 hs5 he5
    obtain ⟨y0, y1, y2, y3, y4, y5⟩ := rec_cells h5
    have hbe := hb1.trans hl5
    clear hl5 hs5 he5 hZ1 hb1
    go_wp2
    refine bodyPost_ret (v := .tuple #[noR, .int .i64 80]) ?_ rfl ⟨fun k => absurd k HN.out, fun _ => rfl, hbe⟩
    rw [results_cell_tmp rfl]
    go_simp
  · have HN := Lib.hid no
    clear no hw hO1 hR1
    go_wp2_with (refine wpList_store_rec (q := 0) (s := 0) rfl _ _ rfl rfl rfl _ rfl hZ1 ?_)
    intro w5 h5 hl5 hs5 he5
    obtain ⟨y0, y1, y2, y3, y4, y5⟩ := rec_cells h5
    have hbe := hb1.trans hl5
    clear hl5 hs5 he5 hZ1 hb1
    go_wp2
    refine bodyPost_ret (v := .tuple #[noR, .int .i64 80]) ?_ rfl ⟨fun k => absurd k HN.out, fun _ => rfl, hbe⟩
    rw [results_cell_tmp rfl]
    go_simp
set_option maxRecDepth 100000 in
set_option maxHeartbeats 4000000 in
theorem rdec_4 (s : ByteArray) (hz : s.size = 128) (hb : begB s = true) (h1 : kindOf s = 4) (w : World) :
    Calls Try.prog 15 #[.string s] w fun e w' => RDecRet s w e w' := by
  have gh : Try.prog.stoodInHeld 27 = false := by kernel_rfl
  have hb' : ((s.extract 0 4).toList == [71, 76, 74, 119]) = true := hb
  have hmax : s.size ≤ maxLen := by rw [hz]; unfold maxLen; omega
  have GS : Hid (∀ w, Calls Try.prog 31 #[.string s, .int .i64 5, .int .i64 8] w fun e w' => e = .returned (.tuple #[.int .u64 (leN (fieldAt s 5 8) : Int), .bool true]) ∧ w = w') := Lib.hid fun w => rget_yes s hmax 5 8 (by omega) (by omega) w
  have hk : (s[4]'(by omega)).toNat = kindOf s := (byte_of s 4 (by omega)).symm
  have hc : (s[13]'(by omega)).toNat = countOf s := (byte_of s 13 (by omega)).symm
  have hkb : kindOf s < 256 := leN_field_lt s 4 1
  have hcb : countOf s < 256 := leN_field_lt s 13 1
  have hqb : leN (fieldAt s 5 8) < 18446744073709551616 := by
    have q := leN_field_lt s 5 8
    have h4 : (256 : Nat) ^ 8 = 18446744073709551616 := by decide
    omega
  obtain ⟨T, c, EE, hw⟩ := rdec_ways s
  have hF : readF s = ⟨4, leN (fieldAt s 5 8), 0, [], [], leN (fieldAt s 13 4)⟩ := by unfold readF; simp [h1]
  rw [hF] at EE hw
  have G2 : Hid (∀ w, Calls Try.prog 31 #[.string s, .int .i64 13, .int .i64 4] w fun e w' => e = .returned (.tuple #[.int .u64 (leN (fieldAt s 13 4) : Int), .bool true]) ∧ w = w') := Lib.hid fun w => rget_yes s hmax 13 4 (by omega) (by omega) w
  have hv : leN (fieldAt s 13 4) < 4294967296 := by have := leN_field_lt s 13 4; omega
  rw [h1] at hk hkb
  have hw := Lib.hid hw
  generalize leN (fieldAt s 5 8) = seq at *
  generalize leN (fieldAt s 13 4) = v at *
  clear h1
  obtain ⟨w0, hw0⟩ : ∃ w0, (w.alloc (.cells zC 27)).alloc (.cells #[.int .i64 (4), .int .u64 (seq : Int), .int .i64 (0), .slice none 0 0, .slice none 0 0, .int .u32 ((v : Int))] 27) = w0 := ⟨_, rfl⟩
  have HB : Hid (Below w.heap.size w w0) := Lib.hid (by rw [← hw0]; exact balloc (balloc1 w _) _)
  have HZ : Hid (Blk w.heap.size zC 27 w0) := Lib.hid (by rw [← hw0]; exact (Blk.new _ _ w).kept1 (balloc1 _ _))
  have HR : Hid (RecAt (w.heap.size + 1) (4) seq (0) (.slice none 0 0) (.slice none 0 0) v w0) := Lib.hid (by
    rw [← hw0]
    have := Blk.new #[.int .i64 (4), .int .u64 (seq : Int), .int .i64 (0), .slice none 0 0, .slice none 0 0, .int .u32 ((v : Int))] 27 (w.alloc (.cells zC 27))
    rw [size_alloc] at this
    exact this)
  have HS0 : Hid (w0.heap.size = w.heap.size + 2) := Lib.hid (by rw [← hw0, size_alloc, size_alloc])
  have RO : Hid (RecOwn w0.heap.size ⟨4, seq, 0, [], [], v⟩ (.slice none 0 0) (.slice none 0 0) w0) := Lib.hid ⟨World.ownsRow_nil _ _ _ _, World.ownsRow_nil _ _ _ _⟩
  have EX := Lib.hid (EE _ _ w0 RO.out.isIn)
  have HW0 := Lib.hid hw0
  clear hw0 EE hF hmax hb
  go_enter Try.func15, Try.ntmps15
  go_wp2_with fail
  refine (GS.out _).mono ?_; rintro e w1 ⟨rfl, rfl⟩
  go_wp2_with fail
  refine (G2.out _).mono ?_; rintro e w1 ⟨rfl, rfl⟩
  go_wp2_with fail
  rw [HW0.out]
  refine EX.out.mono ?_; rintro e wE ⟨rfl, b⟩
  have hZ1 := HZ.out.kept1 b
  have hR1 := HR.out.kept1 b
  have hO1 := RO.out.kept b
  have hb1 := bnext HB.out b
  clear EX b
  rcases hw.out with ⟨yes, rfl, rfl, hr⟩ | ⟨no, rfl, hd⟩ | ⟨no, rfl⟩
  · have HY := Lib.hid (And.intro yes hr)
    have HO := Lib.hid hO1
    obtain ⟨x0, x1, x2, x3, x4, x5⟩ := rec_cells hR1
    clear yes hr hO1 hw
    go_wp2_with (refine wpList_store_rec (q := seq) (s := v) rfl _ _ rfl rfl rfl _ rfl hZ1 ?_)
    intro w5 h5 hl5 hs5 he5
    obtain ⟨y0, y1, y2, y3, y4, y5⟩ := rec_cells h5
    have hbe := hb1.trans hl5
    have HO5 : Hid (RecOwn w0.heap.size ⟨4, seq, 0, [], [], v⟩ (.slice none 0 0) (.slice none 0 0) w5) := Lib.hid ⟨row_same HO.out.1 fun j hj => he5 j (by have := HS0.out; omega), row_same HO.out.2 fun j hj => he5 j (by have := HS0.out; omega)⟩
    clear hl5 hs5 he5 hR1 hZ1 hb1
    go_wp2
    refine bodyPost_ret (v := .tuple #[recA (4) (seq) (0) (.slice none 0 0) (.slice none 0 0) (v), .int .i64 0]) ?_ rfl ⟨fun _ => ⟨.slice none 0 0, .slice none 0 0, by rw [HY.out.2], by rw [HY.out.2]; exact HO5.out.down (by have := HS0.out; omega)⟩, fun k => absurd HY.out.1 k, hbe⟩
    rw [results_cell_tmp rfl]
    go_simp
  · have HN := Lib.hid no
    clear no hw hO1 hR1
    go_wp2_with (refine wpList_store_rec (q := 0) (s := 0) rfl _ _ rfl rfl rfl _ rfl hZ1 ?_)
    intro w5 h5 hl5 hs5 he5
    obtain ⟨y0, y1, y2, y3, y4, y5⟩ := rec_cells h5
    have hbe := hb1.trans hl5
    clear hl5 hs5 he5 hZ1 hb1
    go_wp2
    refine bodyPost_ret (v := .tuple #[noR, .int .i64 80]) ?_ rfl ⟨fun k => absurd k HN.out, fun _ => rfl, hbe⟩
    rw [results_cell_tmp rfl]
    go_simp
  · have HN := Lib.hid no
    clear no hw hO1 hR1
    go_wp2_with (refine wpList_store_rec (q := 0) (s := 0) rfl _ _ rfl rfl rfl _ rfl hZ1 ?_)
    intro w5 h5 hl5 hs5 he5
    obtain ⟨y0, y1, y2, y3, y4, y5⟩ := rec_cells h5
    have hbe := hb1.trans hl5
    clear hl5 hs5 he5 hZ1 hb1
    go_wp2
    refine bodyPost_ret (v := .tuple #[noR, .int .i64 80]) ?_ rfl ⟨fun k => absurd k HN.out, fun _ => rfl, hbe⟩
    rw [results_cell_tmp rfl]
    go_simp
end Go.Proofs.Ytfgjogaoogiddaa
