/- The document's Decode of a record with homes. -/
import Derived.Test.YtfgjogaoogiddaaKRDec
import Derived.Test.YtfgjogaoogiddaaKTwin
namespace Go.Proofs.Ytfgjogaoogiddaa
set_option linter.unusedVariables false
open Go.RowKit

theorem marksOf1_succ (s : ByteArray) (n k : Nat) : marksOf1 s n (k + 1) = marksOf1 s n k ++ [decide (14 + 2 * n + k < 128) && decide (markOf s n k = 1)] := by unfold marksOf1; rw [List.range_succ, List.map_append]; rfl
theorem marksOf1_length (s : ByteArray) (n k : Nat) : (marksOf1 s n k).length = k := by unfold marksOf1; simp
theorem blk_step {g B : Nat} {cs : Array Value} {t : TypeId} {w w' : World} (h : Blk g cs t w) (b : Below B w w') (hg : g < B) : Blk g cs t w' := (b.block g hg).trans h
set_option maxRecDepth 100000 in
set_option maxHeartbeats 4000000 in
theorem rdec_3 (s : ByteArray) (hz : s.size = 128) (hb : begB s = true) (h1 : kindOf s = 3) (w : World) :
    Calls Try.prog 15 #[.string s] w fun e w' => RDecRet s w e w' := by
  have gh : Try.prog.stoodInHeld 27 = false := by kernel_rfl
  have hb' : ((s.extract 0 4).toList == [71, 76, 74, 119]) = true := hb
  have hmax : s.size ≤ maxLen := by rw [hz]; unfold maxLen; omega
  have GS : Hid (∀ w, Calls Try.prog 31 #[.string s, .int .i64 5, .int .i64 8] w fun e w' => e = .returned (.tuple #[.int .u64 (leN (fieldAt s 5 8) : Int), .bool true]) ∧ w = w') := Lib.hid fun w => rget_yes s hmax 5 8 (by omega) (by omega) w
  have hk : (s[4]'(by omega)).toNat = kindOf s := (byte_of s 4 (by omega)).symm
  have hc : (s[13]'(by omega)).toNat = countOf s := (byte_of s 13 (by omega)).symm
  have hkb : kindOf s < 256 := leN_field_lt s 4 1
  have hcb : countOf s < 256 := leN_field_lt s 13 1
  have hqb : leN (fieldAt s 5 8) < 18446744073709551616 := by
    have q := leN_field_lt s 5 8
    have h4 : (256 : Nat) ^ 8 = 18446744073709551616 := by decide
    omega
  obtain ⟨T, c, EE, hw⟩ := rdec_ways s
  have hF : readF s = ⟨3, leN (fieldAt s 5 8), 0, homesOf s (min (countOf s) 40), [], 0⟩ := by unfold readF; simp [h1]
  rw [hF] at EE hw
  have GH : Hid (∀ k : Nat, k < 40 → ∀ w, Calls Try.prog 31 #[.string s, .int .i64 (14 + 2 * (k : Int)), .int .i64 2] w fun e w' => e = .returned (.tuple #[.int .u64 (homeOf s k : Int), .bool true]) ∧ w = w') := Lib.hid fun k hk w => rget_yes s hmax (14 + 2 * k) 2 (by omega) (by omega) w
  have hhb : ∀ k, homeOf s k < 65536 := fun k => leN_field_lt s (14 + 2 * k) 2
  rw [h1] at hk hkb
  have hw := Lib.hid hw
  generalize leN (fieldAt s 5 8) = seq at *
  have HHB := Lib.hid hhb
  clear h1 hhb
  obtain ⟨w0, hw0⟩ : ∃ w0, (w.alloc (.cells zC 27)).alloc (.cells #[.int .i64 (3), .int .u64 (seq : Int), .int .i64 (0), .slice none 0 0, .slice none 0 0, .int .u32 (0)] 27) = w0 := ⟨_, rfl⟩
  have HB : Hid (Below w.heap.size w w0) := Lib.hid (by rw [← hw0]; exact balloc (balloc1 w _) _)
  have HZ : Hid (Blk w.heap.size zC 27 w0) := Lib.hid (by rw [← hw0]; exact (Blk.new _ _ w).kept1 (balloc1 _ _))
  have HR : Hid (RecAt (w.heap.size + 1) (3) seq (0) (.slice none 0 0) (.slice none 0 0) 0 w0) := Lib.hid (by
    rw [← hw0]
    have := Blk.new #[.int .i64 (3), .int .u64 (seq : Int), .int .i64 (0), .slice none 0 0, .slice none 0 0, .int .u32 (0)] 27 (w.alloc (.cells zC 27))
    rw [size_alloc] at this
    exact this)
  have HS0 : Hid (w0.heap.size = w.heap.size + 2) := Lib.hid (by rw [← hw0, size_alloc, size_alloc])
  have HW0 := Lib.hid hw0
  have EE := Lib.hid EE
  have HC := Lib.hid hc
  obtain ⟨n, hn⟩ : ∃ n, countOf s = n := ⟨_, rfl⟩
  rw [hn] at hc hcb
  have HN := Lib.hid hn
  clear hw0 hF hmax hb hn
  go_enter Try.func15, Try.ntmps15
  go_wp2_with fail
  refine (GS.out _).mono ?_; rintro e w1 ⟨rfl, rfl⟩
  go_wp2
  rw [HW0.out]
  have HZ0 := HZ.out
  have HR0 := HR.out
  have HB0 := HB.out
  clear HW0
  go_loopw [12] (fun q wr => ∃ (k : Nat) (vh : Value), q = .int .i64 k ∧ k ≤ n ∧ k ≤ 40 ∧ RecAt (w.heap.size + 1) 3 seq 0 vh (.slice none 0 0) 0 wr ∧ Blk w.heap.size zC 27 wr ∧ IntsOwn w0.heap.size vh (homesOf s k) wr ∧ Below w.heap.size w wr ∧ w0.heap.size ≤ wr.heap.size) (fun q _ => n - (intOf q).toNat)
  case atStart => exact ⟨0, _, rfl, Nat.zero_le _, by omega, HR0, HZ0, World.ownsRow_nil _ _ _ _, HB0, Nat.le_refl _⟩
  case round =>
    clear HZ0 HR0 HB0
    obtain ⟨k, vh, rfl, hkn, hk40, HR1, HZ1, hown, hb1, hsz⟩ := hrel
    by_cases hlt : k < n ∧ k < 40
    · obtain ⟨hlt1, hlt2⟩ := hlt
      obtain ⟨ah, ch, hvh, -⟩ := shape_of hown
      rw [homesOf_length] at hvh
      subst hvh
      have HW := Lib.hid hown
      have HS := Lib.hid (homesOf_succ s k)
      have hhv := HHB.out k
      obtain ⟨x0, x1, x2, x3, x4, x5⟩ := rec_cells HR1
      have hs0 := HS0.out
      clear hown hs0
      go_wp2_with fail
      refine (GH.out k hlt2 _).mono ?_; rintro e w1 ⟨rfl, rfl⟩
      generalize homeOf s k = hv at *
      go_wp2_with (at_builtin; refine wpList_appI rfl _ _ rfl w0.heap.size _ _ (hv : Int) rfl (HW.out.alloc _) wr rfl rfl (by rw [homesOf_length]; omega) (by rw [size_alloc]; omega) ?_)
      intro v' w2 h2 b2
      have hs0 := HS0.out
      have HR2 := blk_step (HR1.kept1 (balloc1 wr (.cells #[.int .i64 (hv : Int)] 3))) b2 (by omega)
      have HZ2 := blk_step (HZ1.kept1 (balloc1 wr (.cells #[.int .i64 (hv : Int)] 3))) b2 (by omega)
      have hb2 : Below w.heap.size w w2 := (balloc hb1 (.cells #[.int .i64 (hv : Int)] 3)).trans (b2.mono (by omega))
      have hsz2 : w0.heap.size ≤ w2.heap.size := by have := b2.size; rw [size_alloc] at this; omega
      rw [← HS.out] at h2
      obtain ⟨a2, c2, hv2, -⟩ := shape_of h2
      rw [homesOf_length] at hv2
      subst hv2
      obtain ⟨w3, hw3⟩ : ∃ w3, w2.setCell ⟨w.heap.size + 1, 3, none⟩ (.slice a2 (k + 1) c2) = w3 := ⟨_, rfl⟩
      have HR3 : RecAt (w.heap.size + 1) 3 seq 0 (.slice a2 (k + 1) c2) (.slice none 0 0) 0 w3 := by rw [← hw3]; exact HR2.set 3 _
      have HZ3 : Blk w.heap.size zC 27 w3 := by rw [← hw3]; exact HZ2.other (by show w.heap.size + 1 ≠ w.heap.size; omega) _
      have h3 : IntsOwn w0.heap.size (.slice a2 (k + 1) c2) (homesOf s (k + 1)) w3 := row_same h2 fun j hj => by rw [← hw3]; exact Below.heap_setCell w2 _ _ j (by show j ≠ w.heap.size + 1; omega)
      have hb3 : Below w.heap.size w w3 := by rw [← hw3]; exact hb2.setCell (show w.heap.size ≤ w.heap.size + 1 by omega) _
      have hsz3 : w0.heap.size ≤ w3.heap.size := by rw [← hw3, size_set]; exact hsz2
      obtain ⟨y0, y1, y2, y3, y4, y5⟩ := rec_cells HR2
      have fz := fun j => HR2.frozen j
      have HO3 := Lib.hid (And.intro HR3 (And.intro HZ3 (And.intro h3 (And.intro hb3 hsz3))))
      clear HR1 HZ1 hb1 hsz HW x0 x1 x2 x3 x4 x5 b2 HR2 HZ2 hb2 hsz2 h2 HR3 HZ3 h3 hb3 hsz3 hs0 HS
      go_wp2
      exact ⟨⟨k + 1, _, by go_num, by omega, by omega, HO3.out.1, HO3.out.2.1, HO3.out.2.2.1, HO3.out.2.2.2.1, HO3.out.2.2.2.2⟩, by simp [intOf]; omega⟩
    · obtain ⟨hkm⟩ : Nonempty (k = min n 40) := ⟨by omega⟩
      obtain ⟨ah, ch, hvh, -⟩ := shape_of hown
      rw [homesOf_length] at hvh
      subst hvh
      obtain ⟨x0, x1, x2, x3, x4, x5⟩ := rec_cells HR1
      have HW := Lib.hid hown
      have HKM := Lib.hid hkm
      clear hown hkm
      obtain ⟨w1, rfl⟩ : ∃ w1, w1 = wr := ⟨_, rfl⟩
      have HZ := Lib.hid HZ1
      have HR := Lib.hid HR1
      have HB := Lib.hid hb1
      have RO : Hid (RecOwn w0.heap.size ⟨3, seq, 0, homesOf s k, [], 0⟩ (.slice ah k ch) (.slice none 0 0) w1) := Lib.hid ⟨HW.out, World.ownsRow_nil _ _ _ _⟩
      have EX := EE.out (.slice ah k ch) (.slice none 0 0) w1 (by rw [HN.out, ← HKM.out]; exact RO.out.isIn)
      rw [HN.out, ← HKM.out] at EX
      have hw := hw.out
      rw [HN.out, ← HKM.out] at hw
      have hw := Lib.hid hw
      rw [show recV ⟨3, seq, 0, homesOf s k, [], 0⟩ (.slice ah k ch) (.slice none 0 0) = recA 3 seq 0 (.slice ah k ch) (.slice none 0 0) 0 from rfl] at EX
      have EX := Lib.hid EX
      by_cases hkn2 : k < n
      · have hk2 : ¬ k < 40 := by omega
        go_wp2
        by_cases hn0 : 0 < n
        · go_loop [15] (fun q => q = .int .i64 0) (fun _ => 0)
          case atStart => exact rfl
          case round =>
            subst hrel
            go_wp2_with fail
            refine EX.out.mono ?_; rintro e wE ⟨rfl, b⟩
            have hZ1 := HZ.out.kept1 b
            have hR1 := HR.out.kept1 b
            have hO1 := RO.out.kept b
            have hb1 := bnext HB.out b
            clear EX b
            rcases hw.out with ⟨yes, rfl, hTs, hr⟩ | ⟨no, rfl, hd⟩ | ⟨no, rfl⟩
            · obtain rfl : s = T := hTs.symm
              clear hTs
              have HY := Lib.hid (And.intro yes hr)
              have HO := Lib.hid hO1
              obtain ⟨x0, x1, x2, x3, x4, x5⟩ := rec_cells hR1
              clear yes hr hO1 hw
              go_wp2_with (refine wpList_store_rec (q := seq) (s := 0) rfl _ _ rfl rfl rfl _ rfl hZ1 ?_)
              intro w5 h5 hl5 hs5 he5
              obtain ⟨y0, y1, y2, y3, y4, y5⟩ := rec_cells h5
              have hbe := hb1.trans hl5
              have HO5 : Hid (RecOwn w0.heap.size ⟨3, seq, 0, homesOf s k, [], 0⟩ (.slice ah k ch) (.slice none 0 0) w5) := Lib.hid ⟨row_same HO.out.1 fun j hj => he5 j (by have := HS0.out; omega), row_same HO.out.2 fun j hj => he5 j (by have := HS0.out; omega)⟩
              clear hl5 hs5 he5 hR1 hZ1 hb1
              go_wp2
              refine bodyPost_ret (v := .tuple #[recA (3) (seq) (0) (.slice ah k ch) (.slice none 0 0) (0), .int .i64 0]) ?_ rfl ⟨fun _ => ⟨.slice ah k ch, .slice none 0 0, by rw [HY.out.2], by rw [HY.out.2]; exact HO5.out.down (by have := HS0.out; omega)⟩, fun k => absurd HY.out.1 k, hbe⟩
              rw [results_cell_tmp rfl]
              go_simp
            · have HN := Lib.hid no
              clear no hw hO1 hR1
              go_wp2_with (refine wpList_store_rec (q := 0) (s := 0) rfl _ _ rfl rfl rfl _ rfl hZ1 ?_)
              intro w5 h5 hl5 hs5 he5
              obtain ⟨y0, y1, y2, y3, y4, y5⟩ := rec_cells h5
              have hbe := hb1.trans hl5
              clear hl5 hs5 he5 hZ1 hb1
              go_wp2
              refine bodyPost_ret (v := .tuple #[noR, .int .i64 80]) ?_ rfl ⟨fun k => absurd k HN.out, fun _ => rfl, hbe⟩
              rw [results_cell_tmp rfl]
              go_simp
            · have HN := Lib.hid no
              clear no hw hO1 hR1
              go_wp2_with (refine wpList_store_rec (q := 0) (s := 0) rfl _ _ rfl rfl rfl _ rfl hZ1 ?_)
              intro w5 h5 hl5 hs5 he5
              obtain ⟨y0, y1, y2, y3, y4, y5⟩ := rec_cells h5
              have hbe := hb1.trans hl5
              clear hl5 hs5 he5 hZ1 hb1
              go_wp2
              refine bodyPost_ret (v := .tuple #[noR, .int .i64 80]) ?_ rfl ⟨fun k => absurd k HN.out, fun _ => rfl, hbe⟩
              rw [results_cell_tmp rfl]
              go_simp
        · go_loop [15] (fun q => q = .int .i64 0) (fun _ => 0)
          case atStart => exact rfl
          case round =>
            subst hrel
            go_wp2_with fail
            refine EX.out.mono ?_; rintro e wE ⟨rfl, b⟩
            have hZ1 := HZ.out.kept1 b
            have hR1 := HR.out.kept1 b
            have hO1 := RO.out.kept b
            have hb1 := bnext HB.out b
            clear EX b
            rcases hw.out with ⟨yes, rfl, hTs, hr⟩ | ⟨no, rfl, hd⟩ | ⟨no, rfl⟩
            · obtain rfl : s = T := hTs.symm
              clear hTs
              have HY := Lib.hid (And.intro yes hr)
              have HO := Lib.hid hO1
              obtain ⟨x0, x1, x2, x3, x4, x5⟩ := rec_cells hR1
              clear yes hr hO1 hw
              go_wp2_with (refine wpList_store_rec (q := seq) (s := 0) rfl _ _ rfl rfl rfl _ rfl hZ1 ?_)
              intro w5 h5 hl5 hs5 he5
              obtain ⟨y0, y1, y2, y3, y4, y5⟩ := rec_cells h5
              have hbe := hb1.trans hl5
              have HO5 : Hid (RecOwn w0.heap.size ⟨3, seq, 0, homesOf s k, [], 0⟩ (.slice ah k ch) (.slice none 0 0) w5) := Lib.hid ⟨row_same HO.out.1 fun j hj => he5 j (by have := HS0.out; omega), row_same HO.out.2 fun j hj => he5 j (by have := HS0.out; omega)⟩
              clear hl5 hs5 he5 hR1 hZ1 hb1
              go_wp2
              refine bodyPost_ret (v := .tuple #[recA (3) (seq) (0) (.slice ah k ch) (.slice none 0 0) (0), .int .i64 0]) ?_ rfl ⟨fun _ => ⟨.slice ah k ch, .slice none 0 0, by rw [HY.out.2], by rw [HY.out.2]; exact HO5.out.down (by have := HS0.out; omega)⟩, fun k => absurd HY.out.1 k, hbe⟩
              rw [results_cell_tmp rfl]
              go_simp
            · have HN := Lib.hid no
              clear no hw hO1 hR1
              go_wp2_with (refine wpList_store_rec (q := 0) (s := 0) rfl _ _ rfl rfl rfl _ rfl hZ1 ?_)
              intro w5 h5 hl5 hs5 he5
              obtain ⟨y0, y1, y2, y3, y4, y5⟩ := rec_cells h5
              have hbe := hb1.trans hl5
              clear hl5 hs5 he5 hZ1 hb1
              go_wp2
              refine bodyPost_ret (v := .tuple #[noR, .int .i64 80]) ?_ rfl ⟨fun k => absurd k HN.out, fun _ => rfl, hbe⟩
              rw [results_cell_tmp rfl]
              go_simp
            · have HN := Lib.hid no
              clear no hw hO1 hR1
              go_wp2_with (refine wpList_store_rec (q := 0) (s := 0) rfl _ _ rfl rfl rfl _ rfl hZ1 ?_)
              intro w5 h5 hl5 hs5 he5
              obtain ⟨y0, y1, y2, y3, y4, y5⟩ := rec_cells h5
              have hbe := hb1.trans hl5
              clear hl5 hs5 he5 hZ1 hb1
              go_wp2
              refine bodyPost_ret (v := .tuple #[noR, .int .i64 80]) ?_ rfl ⟨fun k => absurd k HN.out, fun _ => rfl, hbe⟩
              rw [results_cell_tmp rfl]
              go_simp
      · go_wp2
        by_cases hn0 : 0 < n
        · go_loop [15] (fun q => q = .int .i64 0) (fun _ => 0)
          case atStart => exact rfl
          case round =>
            subst hrel
            go_wp2_with fail
            refine EX.out.mono ?_; rintro e wE ⟨rfl, b⟩
            have hZ1 := HZ.out.kept1 b
            have hR1 := HR.out.kept1 b
            have hO1 := RO.out.kept b
            have hb1 := bnext HB.out b
            clear EX b
            rcases hw.out with ⟨yes, rfl, hTs, hr⟩ | ⟨no, rfl, hd⟩ | ⟨no, rfl⟩
            · obtain rfl : s = T := hTs.symm
              clear hTs
              have HY := Lib.hid (And.intro yes hr)
              have HO := Lib.hid hO1
              obtain ⟨x0, x1, x2, x3, x4, x5⟩ := rec_cells hR1
              clear yes hr hO1 hw
              go_wp2_with (refine wpList_store_rec (q := seq) (s := 0) rfl _ _ rfl rfl rfl _ rfl hZ1 ?_)
              intro w5 h5 hl5 hs5 he5
              obtain ⟨y0, y1, y2, y3, y4, y5⟩ := rec_cells h5
              have hbe := hb1.trans hl5
              have HO5 : Hid (RecOwn w0.heap.size ⟨3, seq, 0, homesOf s k, [], 0⟩ (.slice ah k ch) (.slice none 0 0) w5) := Lib.hid ⟨row_same HO.out.1 fun j hj => he5 j (by have := HS0.out; omega), row_same HO.out.2 fun j hj => he5 j (by have := HS0.out; omega)⟩
              clear hl5 hs5 he5 hR1 hZ1 hb1
              go_wp2
              refine bodyPost_ret (v := .tuple #[recA (3) (seq) (0) (.slice ah k ch) (.slice none 0 0) (0), .int .i64 0]) ?_ rfl ⟨fun _ => ⟨.slice ah k ch, .slice none 0 0, by rw [HY.out.2], by rw [HY.out.2]; exact HO5.out.down (by have := HS0.out; omega)⟩, fun k => absurd HY.out.1 k, hbe⟩
              rw [results_cell_tmp rfl]
              go_simp
            · have HN := Lib.hid no
              clear no hw hO1 hR1
              go_wp2_with (refine wpList_store_rec (q := 0) (s := 0) rfl _ _ rfl rfl rfl _ rfl hZ1 ?_)
              intro w5 h5 hl5 hs5 he5
              obtain ⟨y0, y1, y2, y3, y4, y5⟩ := rec_cells h5
              have hbe := hb1.trans hl5
              clear hl5 hs5 he5 hZ1 hb1
              go_wp2
              refine bodyPost_ret (v := .tuple #[noR, .int .i64 80]) ?_ rfl ⟨fun k => absurd k HN.out, fun _ => rfl, hbe⟩
              rw [results_cell_tmp rfl]
              go_simp
            · have HN := Lib.hid no
              clear no hw hO1 hR1
              go_wp2_with (refine wpList_store_rec (q := 0) (s := 0) rfl _ _ rfl rfl rfl _ rfl hZ1 ?_)
              intro w5 h5 hl5 hs5 he5
              obtain ⟨y0, y1, y2, y3, y4, y5⟩ := rec_cells h5
              have hbe := hb1.trans hl5
              clear hl5 hs5 he5 hZ1 hb1
              go_wp2
              refine bodyPost_ret (v := .tuple #[noR, .int .i64 80]) ?_ rfl ⟨fun k => absurd k HN.out, fun _ => rfl, hbe⟩
              rw [results_cell_tmp rfl]
              go_simp
        · go_loop [15] (fun q => q = .int .i64 0) (fun _ => 0)
          case atStart => exact rfl
          case round =>
            subst hrel
            go_wp2_with fail
            refine EX.out.mono ?_; rintro e wE ⟨rfl, b⟩
            have hZ1 := HZ.out.kept1 b
            have hR1 := HR.out.kept1 b
            have hO1 := RO.out.kept b
            have hb1 := bnext HB.out b
            clear EX b
            rcases hw.out with ⟨yes, rfl, hTs, hr⟩ | ⟨no, rfl, hd⟩ | ⟨no, rfl⟩
            · obtain rfl : s = T := hTs.symm
              clear hTs
              have HY := Lib.hid (And.intro yes hr)
              have HO := Lib.hid hO1
              obtain ⟨x0, x1, x2, x3, x4, x5⟩ := rec_cells hR1
              clear yes hr hO1 hw
              go_wp2_with (refine wpList_store_rec (q := seq) (s := 0) rfl _ _ rfl rfl rfl _ rfl hZ1 ?_)
              intro w5 h5 hl5 hs5 he5
              obtain ⟨y0, y1, y2, y3, y4, y5⟩ := rec_cells h5
              have hbe := hb1.trans hl5
              have HO5 : Hid (RecOwn w0.heap.size ⟨3, seq, 0, homesOf s k, [], 0⟩ (.slice ah k ch) (.slice none 0 0) w5) := Lib.hid ⟨row_same HO.out.1 fun j hj => he5 j (by have := HS0.out; omega), row_same HO.out.2 fun j hj => he5 j (by have := HS0.out; omega)⟩
              clear hl5 hs5 he5 hR1 hZ1 hb1
              go_wp2
              refine bodyPost_ret (v := .tuple #[recA (3) (seq) (0) (.slice ah k ch) (.slice none 0 0) (0), .int .i64 0]) ?_ rfl ⟨fun _ => ⟨.slice ah k ch, .slice none 0 0, by rw [HY.out.2], by rw [HY.out.2]; exact HO5.out.down (by have := HS0.out; omega)⟩, fun k => absurd HY.out.1 k, hbe⟩
              rw [results_cell_tmp rfl]
              go_simp
            · have HN := Lib.hid no
              clear no hw hO1 hR1
              go_wp2_with (refine wpList_store_rec (q := 0) (s := 0) rfl _ _ rfl rfl rfl _ rfl hZ1 ?_)
              intro w5 h5 hl5 hs5 he5
              obtain ⟨y0, y1, y2, y3, y4, y5⟩ := rec_cells h5
              have hbe := hb1.trans hl5
              clear hl5 hs5 he5 hZ1 hb1
              go_wp2
              refine bodyPost_ret (v := .tuple #[noR, .int .i64 80]) ?_ rfl ⟨fun k => absurd k HN.out, fun _ => rfl, hbe⟩
              rw [results_cell_tmp rfl]
              go_simp
            · have HN := Lib.hid no
              clear no hw hO1 hR1
              go_wp2_with (refine wpList_store_rec (q := 0) (s := 0) rfl _ _ rfl rfl rfl _ rfl hZ1 ?_)
              intro w5 h5 hl5 hs5 he5
              obtain ⟨y0, y1, y2, y3, y4, y5⟩ := rec_cells h5
              have hbe := hb1.trans hl5
              clear hl5 hs5 he5 hZ1 hb1
              go_wp2
              refine bodyPost_ret (v := .tuple #[noR, .int .i64 80]) ?_ rfl ⟨fun k => absurd k HN.out, fun _ => rfl, hbe⟩
              rw [results_cell_tmp rfl]
              go_simp
end Go.Proofs.Ytfgjogaoogiddaa
