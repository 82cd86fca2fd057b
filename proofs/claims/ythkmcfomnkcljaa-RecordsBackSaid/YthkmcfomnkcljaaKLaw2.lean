/- The walk of RecordsBack. -/
import Derived.Test.YthkmcfomnkcljaaKAlive
import Derived.Test.YthkmcfomnkcljaaKSame
namespace Go.Proofs.Ythkmcfomnkcljaa
set_option linter.unusedVariables false
open Go.RowKit


set_option maxHeartbeats 8000000 in
theorem back_walk (r : Rec) (f : Fits r) (vh vm : Value) (block : ByteArray) (hs : block.size ≤ maxLen) (w : World) (hr : RecIn r vh vm w) :
    Calls Try.prog 6 #[recV r vh vm, .string block] w fun e w' => e = .returned (.bool true) ∧ Below w.heap.size w w' := by
  have gh : Try.prog.stoodInHeld 27 = false := by kernel_rfl
  obtain ⟨ah, ch, rfl, a1, a2, -⟩ := hr.1.shape
  obtain ⟨am, cm, rfl, b1, b2, -⟩ := hr.2.shape
  have hb0 := balloc1 w (.cells (recC r (.slice ah r.homes.length ch) (.slice am r.masked.length cm)) 27)
  by_cases l1 : r.homes.length ≤ 1000
  · by_cases l2 : r.masked.length ≤ 1000
    · have AL := Lib.hid alive_any
      obtain ⟨w0, hw0⟩ : ∃ w0, w.alloc (.cells (recC r (.slice ah r.homes.length ch) (.slice am r.masked.length cm)) 27) = w0 := ⟨_, rfl⟩
      have HA : Blk w.heap.size (recC r (.slice ah r.homes.length ch) (.slice am r.masked.length cm)) 27 w0 := by rw [← hw0]; exact Blk.new _ _ w
      rw [hw0] at hb0
      have hr0 := hr.kept hb0
      by_cases hok : RecOk r
      · have E := enc_yes r hok f _ _ w0 hr0
        have hbl := isBlk_of hok f
        have hsz := blk_size hok
        have DS := fun w => dec_yes (blk r) (by rw [hsz]; unfold maxLen; omega) hbl.1 w
        rw [hbl.2] at DS
        have SM := fun vh2 vm2 w' (h2 : RecIn r vh2 vm2 w') (h1 : RecIn r (.slice ah r.homes.length ch) (.slice am r.masked.length cm) w') => same_rec r vh2 vm2 _ _ w' h2 h1
        have e128 : ((blk r).size : Int) = 128 := by omega
        generalize blk r = S at *
        obtain ⟨kind, seq, pos, homes, masked, sum⟩ := r
        dsimp only at l1 l2
        have E := Lib.hid E
        have DS := Lib.hid DS
        have SM := Lib.hid SM
        obtain ⟨c0, c1, c2, c3, c4, c5⟩ := rec_cells HA
        clear hok hbl hr f
        go_enter Try.func6, Try.ntmps6
        go_wp2_with fail
        refine E.out.mono ?_; rintro e w1 ⟨rfl, k1⟩
        have HA1 := HA.kept1 k1
        have hr1 := hr0.kept k1
        have hb1 := bnext hb0 k1
        clear c0 c1 c2 c3 c4 c5 HA hr0 hb0 hw0 k1
        go_wp2_with fail
        refine (DS.out _).mono ?_; rintro e w2 ⟨vh2, vm2, rfl, ho2, k2⟩
        obtain ⟨ah2, ch2, rfl, -⟩ := shape_of ho2.1
        obtain ⟨am2, cm2, rfl, -⟩ := shape_of ho2.2
        obtain ⟨w3, hw3⟩ : ∃ w3, w2.alloc (.cells #[.int .i64 kind, .int .u64 (seq : Int), .int .i64 pos, .slice ah2 homes.length ch2, .slice am2 masked.length cm2, .int .u32 (sum : Int)] 27) = w3 := ⟨_, rfl⟩
        have k3 : Below w2.heap.size w2 w3 := by rw [← hw3]; exact balloc1 w2 _
        have HA3 := (HA1.kept1 k2).kept1 k3
        have hr3 := (hr1.kept k2).kept k3
        have hi3 := ho2.isIn.kept k3
        have hb3 := bnext (bnext hb1 k2) k3
        have hR3 : RecAt w2.heap.size kind seq pos (.slice ah2 homes.length ch2) (.slice am2 masked.length cm2) sum w3 := by rw [← hw3]; exact Blk.new _ _ w2
        have SM2 := Lib.hid (SM.out _ _ w3 hi3 hr3)
        obtain ⟨c0, c1, c2, c3, c4, c5⟩ := rec_cells HA3
        obtain ⟨x0, x1, x2, x3, x4, x5⟩ := rec_cells hR3
        clear k2 k3 HA1 HA3 hr1 hb1 ho2 hi3 hR3 hr3
        go_wp2_with fail
        refine SM2.out.mono ?_; rintro e w4 ⟨rfl, k4⟩
        have HB := Lib.hid (bnext hb3 k4)
        clear c0 c1 c2 c3 c4 c5 x0 x1 x2 x3 x4 x5 hb3 k4 E DS SM SM2 hw3
        by_cases hblk : IsBlk block
        · have hok2 := hblk.2.1
          have f2 := fits_read block
          have DB := (fun w => dec_yes block hs hblk w)
          have EB : ∀ vh vm w, RecIn (readR block) vh vm w → Calls Try.prog 10 #[recV (readR block) vh vm] w fun e w' => e = okRet block ∧ Below w.heap.size w w' := fun vh vm w hw => by
            have := enc_yes (readR block) hok2 f2 vh vm w hw
            rwa [hblk.2.2] at this
          clear hblk hok2 f2
          generalize readR block = rx at *
          obtain ⟨kindx, seqx, posx, homesx, maskedx, sumx⟩ := rx
          have DB := Lib.hid DB
          have EB := Lib.hid EB
          go_wp2_with fail
          refine (DB.out _).mono ?_; rintro e w5 ⟨vhx, vmx, rfl, hox, bx⟩
          obtain ⟨ahx, chx, rfl, -⟩ := shape_of hox.1
          obtain ⟨amx, cmx, rfl, -⟩ := shape_of hox.2
          obtain ⟨w6, hw6⟩ : ∃ w6, w5.alloc (.cells #[.int .i64 kindx, .int .u64 (seqx : Int), .int .i64 posx, .slice ahx homesx.length chx, .slice amx maskedx.length cmx, .int .u32 (sumx : Int)] 27) = w6 := ⟨_, rfl⟩
          have hb6 : Below w.heap.size w w6 := by rw [← hw6]; exact balloc (bnext HB.out bx) _
          have hI6 := hox.isIn.kept (show Below w5.heap.size w5 w6 by rw [← hw6]; exact balloc1 w5 _)
          have hR6 : RecAt w5.heap.size kindx seqx posx (.slice ahx homesx.length chx) (.slice amx maskedx.length cmx) sumx w6 := by rw [← hw6]; exact Blk.new _ _ w5
          have EX := Lib.hid (EB.out (.slice ahx homesx.length chx) (.slice amx maskedx.length cmx) w6 hI6)
          obtain ⟨x0, x1, x2, x3, x4, x5⟩ := rec_cells hR6
          have HW6 := Lib.hid hw6
          clear hw6 hox bx hI6 hR6 HB
          go_wp2_with fail
          try rw [HW6.out]
          refine EX.out.mono ?_; rintro e w7 ⟨rfl, b7⟩
          have hb7 := bnext hb6 b7
          clear x0 x1 x2 x3 x4 x5 hb6 b7
          go_wp2_with fail
          refine (AL.out _).mono ?_; rintro e w8 ⟨rfl, b8⟩
          have hb8 := bnext hb7 b8
          clear hb7 b8
          go_wp2
          go_ret
          exact ⟨rfl, hb8⟩
        · have DB := Lib.hid (fun w => dec_no block hs hblk w)
          clear hblk
          go_wp2_with fail
          refine (DB.out _).mono ?_; rintro e w5 ⟨rfl, bx⟩
          obtain ⟨w6, hw6⟩ : ∃ w6, w5.alloc (.cells #[.int .i64 0, .int .u64 0, .int .i64 0, .slice none 0 0, .slice none 0 0, .int .u32 0] 27) = w6 := ⟨_, rfl⟩
          have hb6 : Below w.heap.size w w6 := by rw [← hw6]; exact balloc (bnext HB.out bx) _
          have hR6 : RecAt w5.heap.size 0 0 0 (.slice none 0 0) (.slice none 0 0) 0 w6 := by rw [← hw6]; exact Blk.new _ _ w5
          obtain ⟨x0, x1, x2, x3, x4, x5⟩ := rec_cells hR6
          have SX := Lib.hid (same_rec ⟨0, 0, 0, [], [], 0⟩ (.slice none 0 0) (.slice none 0 0) (.slice none 0 0) (.slice none 0 0) w6 (nil_in _ rfl rfl _) (nil_in _ rfl rfl _))
          have HW6 := Lib.hid hw6
          clear hw6 bx hR6 HB
          go_wp2_with fail
          try rw [HW6.out]
          refine SX.out.mono ?_; rintro e w7 ⟨rfl, b7⟩
          have hb7 := bnext hb6 b7
          clear x0 x1 x2 x3 x4 x5 hb6 b7
          go_wp2_with fail
          refine (AL.out _).mono ?_; rintro e w8 ⟨rfl, b8⟩
          have hb8 := bnext hb7 b8
          clear hb7 b8
          go_wp2
          go_ret
          exact ⟨rfl, hb8⟩
      · have E := Lib.hid (enc_no r hok f _ _ w0 hr0)
        obtain ⟨kind, seq, pos, homes, masked, sum⟩ := r
        dsimp only at l1 l2
        obtain ⟨c0, c1, c2, c3, c4, c5⟩ := rec_cells HA
        clear hok hr f
        go_enter Try.func6, Try.ntmps6
        go_wp2_with fail
        refine E.out.mono ?_; rintro e w1 ⟨rfl, k1⟩
        have HB := Lib.hid (bnext hb0 k1)
        clear c0 c1 c2 c3 c4 c5 HA hr0 hb0 hw0 k1 E
        by_cases hblk : IsBlk block
        · have hok2 := hblk.2.1
          have f2 := fits_read block
          have DB := (fun w => dec_yes block hs hblk w)
          have EB : ∀ vh vm w, RecIn (readR block) vh vm w → Calls Try.prog 10 #[recV (readR block) vh vm] w fun e w' => e = okRet block ∧ Below w.heap.size w w' := fun vh vm w hw => by
            have := enc_yes (readR block) hok2 f2 vh vm w hw
            rwa [hblk.2.2] at this
          clear hblk hok2 f2
          generalize readR block = rx at *
          obtain ⟨kindx, seqx, posx, homesx, maskedx, sumx⟩ := rx
          have DB := Lib.hid DB
          have EB := Lib.hid EB
          go_wp2_with fail
          refine (DB.out _).mono ?_; rintro e w5 ⟨vhx, vmx, rfl, hox, bx⟩
          obtain ⟨ahx, chx, rfl, -⟩ := shape_of hox.1
          obtain ⟨amx, cmx, rfl, -⟩ := shape_of hox.2
          obtain ⟨w6, hw6⟩ : ∃ w6, w5.alloc (.cells #[.int .i64 kindx, .int .u64 (seqx : Int), .int .i64 posx, .slice ahx homesx.length chx, .slice amx maskedx.length cmx, .int .u32 (sumx : Int)] 27) = w6 := ⟨_, rfl⟩
          have hb6 : Below w.heap.size w w6 := by rw [← hw6]; exact balloc (bnext HB.out bx) _
          have hI6 := hox.isIn.kept (show Below w5.heap.size w5 w6 by rw [← hw6]; exact balloc1 w5 _)
          have hR6 : RecAt w5.heap.size kindx seqx posx (.slice ahx homesx.length chx) (.slice amx maskedx.length cmx) sumx w6 := by rw [← hw6]; exact Blk.new _ _ w5
          have EX := Lib.hid (EB.out (.slice ahx homesx.length chx) (.slice amx maskedx.length cmx) w6 hI6)
          obtain ⟨x0, x1, x2, x3, x4, x5⟩ := rec_cells hR6
          have HW6 := Lib.hid hw6
          clear hw6 hox bx hI6 hR6 HB
          go_wp2_with fail
          try rw [HW6.out]
          refine EX.out.mono ?_; rintro e w7 ⟨rfl, b7⟩
          have hb7 := bnext hb6 b7
          clear x0 x1 x2 x3 x4 x5 hb6 b7
          go_wp2_with fail
          refine (AL.out _).mono ?_; rintro e w8 ⟨rfl, b8⟩
          have hb8 := bnext hb7 b8
          clear hb7 b8
          go_wp2
          go_ret
          exact ⟨rfl, hb8⟩
        · have DB := Lib.hid (fun w => dec_no block hs hblk w)
          clear hblk
          go_wp2_with fail
          refine (DB.out _).mono ?_; rintro e w5 ⟨rfl, bx⟩
          obtain ⟨w6, hw6⟩ : ∃ w6, w5.alloc (.cells #[.int .i64 0, .int .u64 0, .int .i64 0, .slice none 0 0, .slice none 0 0, .int .u32 0] 27) = w6 := ⟨_, rfl⟩
          have hb6 : Below w.heap.size w w6 := by rw [← hw6]; exact balloc (bnext HB.out bx) _
          have hR6 : RecAt w5.heap.size 0 0 0 (.slice none 0 0) (.slice none 0 0) 0 w6 := by rw [← hw6]; exact Blk.new _ _ w5
          obtain ⟨x0, x1, x2, x3, x4, x5⟩ := rec_cells hR6
          have SX := Lib.hid (same_rec ⟨0, 0, 0, [], [], 0⟩ (.slice none 0 0) (.slice none 0 0) (.slice none 0 0) (.slice none 0 0) w6 (nil_in _ rfl rfl _) (nil_in _ rfl rfl _))
          have HW6 := Lib.hid hw6
          clear hw6 bx hR6 HB
          go_wp2_with fail
          try rw [HW6.out]
          refine SX.out.mono ?_; rintro e w7 ⟨rfl, b7⟩
          have hb7 := bnext hb6 b7
          clear x0 x1 x2 x3 x4 x5 hb6 b7
          go_wp2_with fail
          refine (AL.out _).mono ?_; rintro e w8 ⟨rfl, b8⟩
          have hb8 := bnext hb7 b8
          clear hb7 b8
          go_wp2
          go_ret
          exact ⟨rfl, hb8⟩
    · obtain ⟨kind, seq, pos, homes, masked, sum⟩ := r
      dsimp only at l1 l2
      clear hr f
      go_enter Try.func6, Try.ntmps6
      go_wp2
      go_ret
      exact ⟨rfl, hb0⟩
  · obtain ⟨kind, seq, pos, homes, masked, sum⟩ := r
    dsimp only at l1
    clear hr f
    go_enter Try.func6, Try.ntmps6
    go_wp2
    go_ret
    exact ⟨rfl, hb0⟩
end Go.Proofs.Ythkmcfomnkcljaa
