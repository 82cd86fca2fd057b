/- The walks of the laws of layer 1, each answers true, and leaves all that was there as it was. -/
import Derived.Test.YtefgjapclkdkoaaWPut
namespace Go.Proofs.Ytefgjapclkdkoaa
open Go.RowKit

/-- the chapter's examples -/
theorem ex_get : getV ⟨#[1, 2, 3, 4, 5]⟩ 1 4 = 84148994 ∧ fieldOk (⟨#[1, 2, 3, 4, 5]⟩ : ByteArray).size 1 4 = true := by decide
theorem ex_put : putV ⟨#[1, 2, 3]⟩ 1 2 258 = ⟨#[1, 2, 1]⟩ ∧ putOk (⟨#[1, 2, 3]⟩ : ByteArray).size 1 2 258 = true := by decide
theorem ex_no : putOk (⟨#[1, 2, 3]⟩ : ByteArray).size 1 2 65536 = false := by decide
theorem ex_un : fieldOk (⟨#[1, 2, 3]⟩ : ByteArray).size 2 2 = false := by decide

set_option maxHeartbeats 400000 in
theorem alive_any (w : World) :
    Calls Try.prog 14 #[] w fun e w' => e = .returned (.bool true) ∧ Below w.heap.size w w' := by
  have g1 := get_any ⟨#[1, 2, 3, 4, 5]⟩ (by decide) 1 4
  rw [ex_get.1, ex_get.2] at g1
  have p1 := put_any ⟨#[1, 2, 3]⟩ (by decide) 1 2 258 (by decide)
  rw [ex_put.1, ex_put.2] at p1
  have p2 := put_any ⟨#[1, 2, 3]⟩ (by decide) 1 2 65536 (by decide)
  rw [ex_no] at p2
  have g2 := get_any ⟨#[1, 2, 3]⟩ (by decide) 2 2
  rw [ex_un] at g2
  have G1 := Lib.hid g1
  have G2 := Lib.hid g2
  have P1 := Lib.hid p1
  have P2 := Lib.hid p2
  clear g1 g2 p1 p2
  go_enter Try.func14, Try.ntmps14
  go_wp2_with fail
  refine (G1.out _).mono ?_; rintro e w' ⟨rfl, rfl⟩
  go_wp2_with fail
  refine (P1.out _).mono ?_; rintro e w1 ⟨rfl, hb1⟩
  go_wp2_with fail
  refine (P2.out _).mono ?_; rintro e w2 ⟨rfl, hb2⟩
  go_wp2_with fail
  refine (G2.out _).mono ?_; rintro e w3 ⟨rfl, rfl⟩
  go_wp2
  go_ret
  exact ⟨rfl, hb1.trans (hb2.mono hb1.size)⟩

theorem below_boxed {w w1 : World} {o : Obj} (h : Below (w.alloc o).heap.size (w.alloc o) w1) : Below w.heap.size w w1 :=
  ((Below.refl _ _).alloc (Nat.le_refl _) _).trans (h.mono (by show _ ≤ (w.heap.push _).size; simp))
theorem bcell {W w1 : World} (hb : Below W.heap.size W w1) : (∀ b o, b < W.heap.size → w1.cell? ⟨b, o, none⟩ = W.cell? ⟨b, o, none⟩) ∧ (∀ b o, b < W.heap.size → w1.frozen? ⟨b, o, none⟩ = W.frozen? ⟨b, o, none⟩) :=
  ⟨fun b o h => hb.cell (p := ⟨b, o, none⟩) h, fun b o h => hb.frozen (p := ⟨b, o, none⟩) h⟩

set_option maxHeartbeats 400000 in
theorem gets_walk (s : ByteArray) (hs : s.size ≤ maxLen) (a z : Int) (w : World) :
    Calls Try.prog 3 #[.string s, .agg #[.int .i64 a, .int .i64 z]] w fun e w' => e = .returned (.bool true) ∧ Below w.heap.size w w' := by
  have G := Lib.hid (get_any s hs a z)
  have RG := Lib.hid (rget_any s hs a z)
  have I := Lib.hid (getInt_any s hs a z)
  have RI := Lib.hid (rgetInt_any s hs a z)
  have AL := Lib.hid alive_any
  clear hs
  go_enter Try.func3, Try.ntmps3
  go_wp2_with (first | (go_at_call 10; refine (G.out _).mono ?_; rintro e w' ⟨rfl, rfl⟩) | (go_at_call 11; refine (RG.out _).mono ?_; rintro e w' ⟨rfl, rfl⟩) | (go_at_call 12; refine (I.out _).mono ?_; rintro e w' ⟨rfl, rfl⟩) | (go_at_call 13; refine (RI.out _).mono ?_; rintro e w' ⟨rfl, rfl⟩) | (go_at_call 14; refine (AL.out _).mono ?_; rintro e w1 ⟨rfl, hb1⟩))
  go_ret
  exact ⟨rfl, below_boxed hb1⟩

set_option maxHeartbeats 400000 in
theorem puts_walk (s : ByteArray) (hs : s.size ≤ maxLen) (a z : Int) (n : Nat) (hn : n < 18446744073709551616) (w : World) :
    Calls Try.prog 4 #[.string s, .agg #[.int .i64 a, .int .i64 z], .int .u64 n] w fun e w' => e = .returned (.bool true) ∧ Below w.heap.size w w' := by
  have G := Lib.hid (put_any s hs a z n hn)
  have RG := Lib.hid (rput_any s hs a z n hn)
  have AL := Lib.hid alive_any
  clear hs hn
  go_enter Try.func4, Try.ntmps4
  go_wp2_with fail
  refine (G.out _).mono ?_; rintro e w1 ⟨rfl, hb1⟩
  obtain ⟨hc1, hf1⟩ := bcell hb1
  go_wp2_with fail
  refine (RG.out _).mono ?_; rintro e w2 ⟨rfl, hb2⟩
  clear hc1 hf1
  go_wp2_with fail
  refine (AL.out _).mono ?_; rintro e w3 ⟨rfl, hb3⟩
  go_wp2
  go_ret
  exact ⟨rfl, below_boxed (hb1.trans ((hb2.mono hb1.size).trans (hb3.mono (hb1.trans (hb2.mono hb1.size)).size)))⟩

set_option maxHeartbeats 400000 in
theorem ints_walk (s : ByteArray) (hs : s.size ≤ maxLen) (a z n : Int) (hn : n ≤ 9223372036854775807) (w : World) :
    Calls Try.prog 5 #[.string s, .agg #[.int .i64 a, .int .i64 z], .int .i64 n] w fun e w' => e = .returned (.bool true) ∧ Below w.heap.size w w' := by
  have G := Lib.hid (putInt_any s hs a z n hn)
  have RG := Lib.hid (rputInt_any s hs a z n hn)
  have AL := Lib.hid alive_any
  clear hs hn
  go_enter Try.func5, Try.ntmps5
  go_wp2_with fail
  refine (G.out _).mono ?_; rintro e w1 ⟨rfl, hb1⟩
  obtain ⟨hc1, hf1⟩ := bcell hb1
  go_wp2_with fail
  refine (RG.out _).mono ?_; rintro e w2 ⟨rfl, hb2⟩
  clear hc1 hf1
  go_wp2_with fail
  refine (AL.out _).mono ?_; rintro e w3 ⟨rfl, hb3⟩
  go_wp2
  go_ret
  exact ⟨rfl, below_boxed (hb1.trans ((hb2.mono hb1.size).trans (hb3.mono (hb1.trans (hb2.mono hb1.size)).size)))⟩

end Go.Proofs.Ytefgjapclkdkoaa
