/- The walks of DeviceNone, DeviceOpens, DeviceFlush. -/
import Derived.Test.YtgdnlkoncajaoaaDAlive
import Derived.Test.YtgdnlkoncajaoaaDNone
import Derived.Test.YtgdnlkoncajaoaaDRef3
import Derived.Test.YtgdnlkoncajaoaaDROpen
namespace Go.Proofs.Ytgdnlkoncajaoaa
set_option linter.unusedVariables false
open Go.RowKit

theorem NoDev.kept1 {v : Value} {w w' : World} (h : NoDev v w) (b : Below w.heap.size w w') : NoDev v w' := by
  rcases h with h | ⟨d, h, hc⟩
  · exact .inl h
  · exact .inr ⟨d, h, (b.cell (p := ⟨d, 0, none⟩) (World.block_lt_of_cell? w _ hc)).trans hc⟩
set_option maxHeartbeats 4000000 in
theorem none_walk (b n : Int) (kv : Value) (w : World) :
    Calls Try.prog 5 #[.int .i64 b, .int .i64 n, kv] w fun e w' => e = .returned (.bool true) ∧ Below w.heap.size w w' := by
  have AR := Lib.hid arm_none
  have RD := Lib.hid read_none
  have WR := Lib.hid write_none
  have FL := Lib.hid flush_none
  have DE := Lib.hid dead_none
  have AC := Lib.hid acts_none
  have BL := Lib.hid blocks_none
  have PE := Lib.hid pending_none
  have CR := Lib.hid crash_nodev
  have KE := Lib.hid kept_none
  have AL := Lib.hid alive_any
  have B := Lib.hid (block_of 1 (by decide))
  go_enter Try.func5, Try.ntmps5
  go_wp2
  go_loopw [7] (fun q wr => ∃ i : Nat, q = .int .i64 i ∧ i ≤ 2 ∧ Below w.heap.size w wr) (fun q _ => 2 - (intOf q).toNat)
  case atStart => exact ⟨0, rfl, by omega, Below.refl _ _⟩
  case round =>
    obtain ⟨i, rfl, hi, hbr⟩ := hrel
    rcases (show i = 0 ∨ i = 1 ∨ i = 2 by omega) with h0 | h0 | h0
    · subst h0
      have hN : NoDev (.pointer none) wr := .inl rfl
      go_wp2_with fail
      refine (AR.out _ _ _ hN).mono ?_; rintro e w' ⟨rfl, rfl⟩
      go_wp2_with fail
      refine (RD.out _ _ _ hN).mono ?_; rintro e w' ⟨rfl, rfl⟩
      go_wp2_with fail
      refine (BL.out _ _ hN).mono ?_; rintro e w' ⟨rfl, rfl⟩
      go_wp2_with fail
      refine (B.out _).mono ?_; rintro e w3 ⟨rfl, b⟩
      have hN := hN.kept1 b
      have hbr := bnext hbr b
      clear b
      go_wp2_with fail
      refine (WR.out _ _ _ _ hN).mono ?_; rintro e w' ⟨rfl, rfl⟩
      go_wp2_with fail
      refine (FL.out _ _ hN).mono ?_; rintro e w' ⟨rfl, rfl⟩
      go_wp2_with fail
      refine (DE.out _ _ hN).mono ?_; rintro e w' ⟨rfl, rfl⟩
      go_wp2_with fail
      refine (AC.out _ _ hN).mono ?_; rintro e w' ⟨rfl, rfl⟩
      go_wp2_with fail
      refine (PE.out _ _ hN).mono ?_; rintro e w' ⟨rfl, rfl⟩
      go_wp2_with fail
      refine (KE.out _ _ hN).mono ?_; rintro e w' ⟨rfl, rfl⟩
      go_wp2_with fail
      refine (CR.out _ _ _ hN).mono ?_; rintro e w' ⟨rfl, rfl⟩
      clear hN
      go_wp2
      exact ⟨⟨1, rfl, by omega, hbr⟩, by simp [intOf]⟩
    · subst h0
      obtain ⟨w2, hw2⟩ : ∃ w2, wr.alloc (.cells #[.pointer none, .slice none 0 0, .slice none 0 0, .slice none 0 0, .int .i64 0, .int .i64 0] 56) = w2 := ⟨_, rfl⟩
      have hN : NoDev (.pointer (some ⟨wr.heap.size, 0, none⟩)) w2 := .inr ⟨_, rfl, by rw [← hw2]; exact (Blk.new _ _ _).cell 0⟩
      have hbr : Below w.heap.size w w2 := by rw [← hw2]; exact balloc hbr _
      go_wp2_with fail
      refine (AR.out _ _ _ hN).mono ?_; rintro e w' ⟨rfl, rfl⟩
      go_wp2_with fail
      refine (RD.out _ _ _ hN).mono ?_; rintro e w' ⟨rfl, rfl⟩
      go_wp2_with fail
      refine (BL.out _ _ hN).mono ?_; rintro e w' ⟨rfl, rfl⟩
      go_wp2_with fail
      refine (B.out _).mono ?_; rintro e w3 ⟨rfl, b⟩
      have hN := hN.kept1 b
      have hbr := bnext hbr b
      clear b
      go_wp2_with fail
      refine (WR.out _ _ _ _ hN).mono ?_; rintro e w' ⟨rfl, rfl⟩
      go_wp2_with fail
      refine (FL.out _ _ hN).mono ?_; rintro e w' ⟨rfl, rfl⟩
      go_wp2_with fail
      refine (DE.out _ _ hN).mono ?_; rintro e w' ⟨rfl, rfl⟩
      go_wp2_with fail
      refine (AC.out _ _ hN).mono ?_; rintro e w' ⟨rfl, rfl⟩
      go_wp2_with fail
      refine (PE.out _ _ hN).mono ?_; rintro e w' ⟨rfl, rfl⟩
      go_wp2_with fail
      refine (KE.out _ _ hN).mono ?_; rintro e w' ⟨rfl, rfl⟩
      go_wp2_with fail
      refine (CR.out _ _ _ hN).mono ?_; rintro e w' ⟨rfl, rfl⟩
      clear hN
      go_wp2
      exact ⟨⟨2, rfl, by omega, hbr⟩, by simp [intOf]⟩
    · subst h0
      clear AR RD WR FL DE AC BL PE CR KE B
      go_wp2_with fail
      refine (AL.out _).mono ?_; rintro e w3 ⟨rfl, b⟩
      have hbr := bnext hbr b
      clear b
      go_wp2
      go_ret
      exact ⟨rfl, hbr⟩

theorem fresh_pends (n : Nat) (f : Nat → ByteArray) : pends (freshSt n f) = [] := pendL_none fun _ _ => rfl
theorem fresh_crash (n : Nat) (f : Nat → ByteArray) (K : List Bool) : crashT (freshSt n f) K = cat f n := cat_congr fun i _ => by
  unfold crashAt freshSt; simp
theorem fresh_dead (n : Nat) (f : Nat → ByteArray) : isDead (freshSt n f) = false := rfl
set_option maxHeartbeats 4000000 in
theorem opens_no (s : ByteArray) (b : Int) (hs : s.size ≤ maxLen) (h : s.size = 0 ∨ s.size % 128 ≠ 0 ∨ 4096 < s.size / 128) (hg : s.size ≤ 5120 ∨ 524288 < s.size) (w : World) :
    Calls Try.prog 4 #[.string s, .int .i64 b] w fun e w' => e = .returned (.bool true) ∧ Below w.heap.size w w' := by
  have O := Lib.hid (open_no s h hs)
  have R := Lib.hid (ropen_no s h hs)
  have AL := Lib.hid alive_any
  clear h
  unfold maxLen at hs
  rcases hg with hg | hg
  · have t1 : decide ((5120 : Int) < (s.size : Int)) = false := decide_eq_false (by omega)
    go_enter Try.func4, Try.ntmps4
    go_wp2_with fail
    refine (O.out _).mono ?_; rintro e w' ⟨rfl, rfl⟩
    go_wp2_with fail
    refine (R.out _).mono ?_; rintro e w' ⟨rfl, rfl⟩
    go_wp2_with fail
    refine (AL.out _).mono ?_; rintro e w3 ⟨rfl, b⟩
    go_wp2
    go_ret
    exact ⟨rfl, b⟩
  · have t1 : decide ((5120 : Int) < (s.size : Int)) = true := decide_eq_true (by omega)
    have t2 : decide ((s.size : Int) ≤ 524288) = false := decide_eq_false (by omega)
    go_enter Try.func4, Try.ntmps4
    go_wp2_with fail
    refine (O.out _).mono ?_; rintro e w' ⟨rfl, rfl⟩
    go_wp2_with fail
    refine (R.out _).mono ?_; rintro e w' ⟨rfl, rfl⟩
    go_wp2_with fail
    refine (AL.out _).mono ?_; rintro e w3 ⟨rfl, b⟩
    go_wp2
    go_ret
    exact ⟨rfl, b⟩
theorem opens_much (s : ByteArray) (b : Int) (h1 : 5120 < s.size) (h2 : s.size ≤ 524288) (w : World) :
    Calls Try.prog 4 #[.string s, .int .i64 b] w fun e w' => e = .returned (.bool true) ∧ Below w.heap.size w w' := by
  have t1 : decide ((5120 : Int) < (s.size : Int)) = true := decide_eq_true (by omega)
  have t2 : decide ((s.size : Int) ≤ 524288) = true := decide_eq_true (by omega)
  go_enter Try.func4, Try.ntmps4
  go_wp2
  go_ret
  exact ⟨rfl, Below.refl _ _⟩
set_option maxHeartbeats 4000000 in
theorem opens_yes (n : Nat) (s : ByteArray) (b : Int) (h1 : 1 ≤ n) (h2 : n ≤ 40) (hs : s.size = n * 128) (w : World) :
    Calls Try.prog 4 #[.string s, .int .i64 b] w fun e w' => e = .returned (.bool true) ∧ Below w.heap.size w w' := by
  have O := Lib.hid (open_yes n s h1 (by omega) hs w)
  have R := Lib.hid fun w => ropen_yes n s h1 (by omega) hs w
  have AL := Lib.hid alive_any
  have hcat : cat (blkOf 128 s) n = s := cat_blocks hs
  have t1 : decide ((5120 : Int) < (s.size : Int)) = false := decide_eq_false (by omega)
  generalize hS : freshSt n (blkOf 128 s) = S at *
  have RD := Lib.hid fun d lo hi w h => read_any (d := d) (lo := lo) (hi := hi) (S := S) b w h
  have RR := Lib.hid fun d lo hi w h => rread_any (d := d) (lo := lo) (hi := hi) (S := S) b w h
  have BL := Lib.hid fun d lo hi w h => blocks_any (d := d) (lo := lo) (hi := hi) (S := S) w h
  have RB := Lib.hid fun d lo hi w h => rblocks_any (d := d) (lo := lo) (hi := hi) (S := S) w h
  have KE := Lib.hid fun d lo hi w h => kept_any (d := d) (lo := lo) (hi := hi) (S := S) w h
  have CR := Lib.hid fun d lo hi kv w h hk => crash_any (d := d) (lo := lo) (hi := hi) (S := S) [true] kv w h hk
  have PE := Lib.hid fun d lo hi w h => pending_any (d := d) (lo := lo) (hi := hi) (S := S) w h
  have AC := Lib.hid fun d lo hi w h => acts_any (d := d) (lo := lo) (hi := hi) (S := S) w h
  have DE := Lib.hid fun d lo hi w h => dead_any (d := d) (lo := lo) (hi := hi) (S := S) w h
  have e1 : cat S.was S.n = s := by rw [← hS]; exact hcat
  have e2 : crashT S [true] = s := by rw [← hS, fresh_crash]; exact hcat
  have e3 : pends S = [] := by rw [← hS]; exact fresh_pends _ _
  have e4 : isDead S = false := by rw [← hS]; rfl
  have e5 : S.acts = 0 := by rw [← hS]; rfl
  rw [e1] at KE
  rw [e2] at CR
  rw [e3] at PE
  rw [e4] at DE
  rw [e5] at AC
  clear e1 e2 e3 e4 e5 hS hcat hs
  go_enter Try.func4, Try.ntmps4
  go_wp2_with fail
  refine O.out.mono ?_; rintro e w1 ⟨d, rfl, hd, hb⟩
  generalize w1.heap.size = hi at *
  go_wp2_with fail
  refine (R.out _).mono ?_; rintro e w2 ⟨r, rfl, hr, b⟩
  have hd := hd.kept1 b
  have hb := bnext hb b
  clear b O R
  generalize w1.heap.size = lo2 at *
  generalize w2.heap.size = hi2 at *
  go_wp2_with fail
  refine (RD.out _ _ _ _ hd).mono ?_; rintro e w' ⟨rfl, rfl⟩
  go_wp2_with fail
  refine (RR.out _ _ _ _ hr).mono ?_; rintro e w' ⟨rfl, rfl⟩
  go_wp2_with fail
  refine (BL.out _ _ _ _ hd).mono ?_; rintro e w' ⟨rfl, rfl⟩
  go_wp2_with fail
  refine (RB.out _ _ _ _ hr).mono ?_; rintro e w' ⟨rfl, rfl⟩
  clear hr RD RR BL RB
  go_wp2_with fail
  refine (KE.out _ _ _ _ hd).mono ?_; rintro e w3 ⟨rfl, b⟩
  have hd := hd.kept1 b
  have hb := bnext hb b
  clear b
  have b := balloc1 w3 (.cells #[.bool true] 4)
  have C := Lib.hid (CR.out d _ _ _ _ (hd.kept1 b) (lit_row w3 #[.bool true] 4 1 rfl (by decide)))
  have hd := hd.kept1 b
  have hb := bnext hb b
  clear b CR KE
  go_wp2_with fail
  refine C.out.mono ?_; rintro e w4 ⟨rfl, b⟩
  have hd := hd.kept1 b
  have hb := bnext hb b
  clear b C
  go_wp2_with fail
  refine (PE.out _ _ _ _ hd).mono ?_; rintro e w5 ⟨v, rfl, hv, b⟩
  have hd := hd.kept1 b
  have hb := bnext hb b
  obtain ⟨adv, capv, rfl, -, -, -⟩ := shape_of hv
  clear b hv PE
  go_wp2_with fail
  refine (AC.out _ _ _ _ hd).mono ?_; rintro e w' ⟨rfl, rfl⟩
  go_wp2_with fail
  refine (DE.out _ _ _ _ hd).mono ?_; rintro e w' ⟨rfl, rfl⟩
  clear hd AC DE
  go_wp2_with fail
  refine (AL.out _).mono ?_; rintro e w6 ⟨rfl, b⟩
  have hb := bnext hb b
  clear b
  go_wp2
  go_ret
  exact ⟨rfl, hb⟩
theorem opens_walk (s : ByteArray) (b : Int) (hs : s.size ≤ maxLen) (w : World) :
    Calls Try.prog 4 #[.string s, .int .i64 b] w fun e w' => e = .returned (.bool true) ∧ Below w.heap.size w w' := by
  by_cases h1 : 5120 < s.size ∧ s.size ≤ 524288
  · exact opens_much s b h1.1 h1.2 w
  · by_cases h2 : s.size = 0 ∨ s.size % 128 ≠ 0 ∨ 4096 < s.size / 128
    · exact opens_no s b hs h2 (by omega) w
    · exact opens_yes (s.size / 128) s b (by omega) (by omega) (by omega) w
end Go.Proofs.Ytgdnlkoncajaoaa
