/- The chapter's device (alive). -/
import Derived.Test.YtgdnlkoncajaoaaDPlay
import Derived.Test.YtgdnlkoncajaoaaDCrash2
namespace Go.Proofs.Ytgdnlkoncajaoaa
set_option linter.unusedVariables false
open Go.RowKit

theorem lit_row (w : World) (cs : Array Value) (t : TypeId) (n : Nat) (hn : cs.size = n) (hb : n ≤ 1000) : RowIn 1 (.slice (some ⟨w.heap.size, 0, none⟩) n n) n cs.toList (w.alloc (.cells cs t)) := by
  subst hn
  refine ⟨by simp, some ⟨w.heap.size, 0, none⟩, cs.size, rfl, Nat.le_refl _, by unfold maxLen; omega, fun _ => ⟨w.heap.size, 0, rfl, by rw [size_alloc]; omega, fun k u hk => ?_⟩, fun h => by cases h⟩
  rw [Nat.zero_add, World.cell?_alloc_mark]
  simpa using hk
def A0 : St := freshSt 3 zeroB
def A1 : St := A0.wrote 1 (rep 97)
def A2 : St := A1.flushed
def A3 : St := A2.wrote 1 (rep 98)
def A4 : St := A3.wrote 0 (rep 99)
theorem A4_text : rText A4 1 = rep 98 := rfl
theorem A4_code : rCode A4 1 = 0 := rfl
theorem A4_pends : pends A4 = [0, 1] := rfl
theorem empty_app (s : ByteArray) : (⟨#[]⟩ : ByteArray) ++ s = s := ByteArray.empty_append
theorem zeros_rep : zeros = rep 0 := rfl
theorem A4_kept : cat A4.was A4.n = rep 0 ++ rep 97 ++ rep 0 := by
  show (((⟨#[]⟩ : ByteArray) ++ zeros) ++ rep 97) ++ zeros = _
  rw [empty_app, zeros_rep]
theorem A4_crash : crashT A4 [false, true] = rep 0 ++ rep 98 ++ rep 0 := by
  show (((⟨#[]⟩ : ByteArray) ++ zeros) ++ rep 98) ++ zeros = _
  rw [empty_app, zeros_rep]
theorem A4_dead : isDead A4 = false := rfl
theorem A4_acts : A4.acts = 4 := rfl

set_option maxHeartbeats 4000000 in
theorem alive_any (w : World) : Calls Try.prog 13 #[] w fun e w' => e = .returned (.bool true) ∧ Below w.heap.size w w' := by
  have N := Lib.hid (new_yes 3 (by omega) (by omega) w)
  have B := Lib.hid fun b (hb : b < 256) => block_of b hb
  have W1 := Lib.hid fun d lo hi w h => write_ok (d := d) (lo := lo) (hi := hi) (S := A0) 1 (rep 97) (by decide) (rep_size _) (by decide) (by decide) w h
  have F1 := Lib.hid fun d lo hi w h => flush_ok (d := d) (lo := lo) (hi := hi) (S := A1) (by decide) (by decide) w h
  have W2 := Lib.hid fun d lo hi w h => write_ok (d := d) (lo := lo) (hi := hi) (S := A2) 1 (rep 98) (by decide) (rep_size _) (by decide) (by decide) w h
  have W3 := Lib.hid fun d lo hi w h => write_ok (d := d) (lo := lo) (hi := hi) (S := A3) 0 (rep 99) (by decide) (rep_size _) (by decide) (by decide) w h
  have R1 := Lib.hid fun d lo hi w h => read_any (d := d) (lo := lo) (hi := hi) (S := A4) 1 w h
  have P1 := Lib.hid fun d lo hi w h => pending_any (d := d) (lo := lo) (hi := hi) (S := A4) w h
  have K1 := Lib.hid fun d lo hi w h => kept_any (d := d) (lo := lo) (hi := hi) (S := A4) w h
  have C1 := Lib.hid fun d lo hi kv w h hk => crash_any (d := d) (lo := lo) (hi := hi) (S := A4) [false, true] kv w h hk
  have X1 := Lib.hid fun d lo hi w h => acts_any (d := d) (lo := lo) (hi := hi) (S := A4) w h
  have D1 := Lib.hid fun d lo hi w h => dead_any (d := d) (lo := lo) (hi := hi) (S := A4) w h
  rw [A4_text, A4_code] at R1
  rw [A4_pends] at P1
  rw [A4_kept] at K1
  rw [A4_crash] at C1
  rw [A4_acts] at X1
  rw [A4_dead] at D1
  have SY := Lib.hid fun va vb w ha hb => same_yes va vb [0, 1] (by decide) w ha hb
  have r1 : ∀ a, (rep a).size = 128 := rep_size
  have r2 : ∀ a b, (rep a ++ rep b).size = 256 := fun a b => by rw [ByteArray.size_append, rep_size, rep_size]
  go_enter Try.func13, Try.ntmps13
  go_wp2_with fail
  refine N.out.mono ?_; rintro e w1 ⟨d, rfl, hd, hb⟩
  generalize w1.heap.size = hi at *
  have hlo := Nat.le_refl w.heap.size
  go_wp2_with fail
  refine (B.out 97 (by decide) _).mono ?_; rintro e w2 ⟨rfl, b⟩
  have hd := hd.kept1 b
  have hb := bnext hb b
  clear b
  go_wp2_with fail
  refine (W1.out _ _ _ _ hd).mono ?_; rintro e w3 ⟨rfl, hd, z⟩
  have hb := hb.trans (z.below hb.size hlo)
  go_wp2_with fail
  refine (F1.out _ _ _ _ hd).mono ?_; rintro e w4 ⟨rfl, hd, z⟩
  have hb := hb.trans (z.below hb.size hlo)
  go_wp2_with fail
  refine (B.out 98 (by decide) _).mono ?_; rintro e w5 ⟨rfl, b⟩
  have hd := hd.kept1 b
  have hb := bnext hb b
  clear b
  go_wp2_with fail
  refine (W2.out _ _ _ _ hd).mono ?_; rintro e w6 ⟨rfl, hd, z⟩
  have hb := hb.trans (z.below hb.size hlo)
  go_wp2_with fail
  refine (B.out 99 (by decide) _).mono ?_; rintro e w7 ⟨rfl, b⟩
  have hd := hd.kept1 b
  have hb := bnext hb b
  clear b
  go_wp2_with fail
  refine (W3.out _ _ _ _ hd).mono ?_; rintro e w8 ⟨rfl, hd, z⟩
  have hb := hb.trans (z.below hb.size hlo)
  clear N W1 F1 W2 W3 z
  go_wp2_with fail
  refine (R1.out _ _ _ _ hd).mono ?_; rintro e w' ⟨rfl, rfl⟩
  go_wp2_with fail
  refine (B.out 98 (by decide) _).mono ?_; rintro e w9 ⟨rfl, b⟩
  have hd := hd.kept1 b
  have hb := bnext hb b
  clear b
  go_wp2_with fail
  refine (P1.out _ _ _ _ hd).mono ?_; rintro e w10 ⟨v, rfl, hv, b⟩
  have hd := hd.kept1 b
  have hb := bnext hb b
  clear b
  have b := balloc1 w10 (.cells #[.int .i64 0, .int .i64 1] 3)
  have S := Lib.hid (SY.out v _ _ ((natsAt_in hv).kept b) (lit_row w10 #[.int .i64 0, .int .i64 1] 3 2 rfl (by decide)))
  have hd := hd.kept1 b
  have hb := bnext hb b
  clear b hv R1 P1 SY
  go_wp2_with fail
  refine S.out.mono ?_; rintro e w11 ⟨rfl, b⟩
  have hd := hd.kept1 b
  have hb := bnext hb b
  clear b
  clear S
  go_wp2_with fail
  refine (K1.out _ _ _ _ hd).mono ?_; rintro e w12 ⟨rfl, b⟩
  have hd := hd.kept1 b
  have hb := bnext hb b
  clear b
  go_wp2_with fail
  refine (B.out 0 (by decide) _).mono ?_; rintro e w13 ⟨rfl, b⟩
  have hd := hd.kept1 b
  have hb := bnext hb b
  clear b
  go_wp2_with fail
  refine (B.out 97 (by decide) _).mono ?_; rintro e w14 ⟨rfl, b⟩
  have hd := hd.kept1 b
  have hb := bnext hb b
  clear b
  go_wp2_with fail
  refine (B.out 0 (by decide) _).mono ?_; rintro e w15 ⟨rfl, b⟩
  have hd := hd.kept1 b
  have hb := bnext hb b
  clear b
  have b := balloc1 w15 (.cells #[.bool false, .bool true] 4)
  have C := Lib.hid (C1.out d _ _ _ _ (hd.kept1 b) (lit_row w15 #[.bool false, .bool true] 4 2 rfl (by decide)))
  have hd := hd.kept1 b
  have hb := bnext hb b
  clear b
  clear K1 C1
  go_wp2_with fail
  refine C.out.mono ?_; rintro e w16 ⟨rfl, b⟩
  have hd := hd.kept1 b
  have hb := bnext hb b
  clear b
  go_wp2_with fail
  refine (B.out 0 (by decide) _).mono ?_; rintro e w17 ⟨rfl, b⟩
  have hd := hd.kept1 b
  have hb := bnext hb b
  clear b
  go_wp2_with fail
  refine (B.out 98 (by decide) _).mono ?_; rintro e w18 ⟨rfl, b⟩
  have hd := hd.kept1 b
  have hb := bnext hb b
  clear b
  go_wp2_with fail
  refine (B.out 0 (by decide) _).mono ?_; rintro e w19 ⟨rfl, b⟩
  have hd := hd.kept1 b
  have hb := bnext hb b
  clear b
  go_wp2_with fail
  refine (X1.out _ _ _ _ hd).mono ?_; rintro e w' ⟨rfl, rfl⟩
  go_wp2_with fail
  refine (D1.out _ _ _ _ hd).mono ?_; rintro e w' ⟨rfl, rfl⟩
  clear hd
  go_wp2
  go_ret
  exact ⟨rfl, hb⟩
end Go.Proofs.Ytgdnlkoncajaoaa
