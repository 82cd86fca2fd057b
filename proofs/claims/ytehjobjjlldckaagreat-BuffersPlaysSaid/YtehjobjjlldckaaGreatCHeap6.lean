/- container/heap: Fix, Remove, Pop, Push. -/
import Derived.Test.YtehjobjjlldckaaGreatCHeap4
import Derived.Test.YtehjobjjlldckaaGreatCHeap5
namespace Go.Proofs.YtehjobjjlldckaaGreat
set_option linter.unusedVariables false
open Go.RowKit

/-! ### one item has another key -/
section
variable {V0 V : Nat → Rec} {A C : Nat → Nat} {n i : Nat}
theorem fix_key_down (h : heapTo (kV V0) A n) (hv : ∀ k, k < n → k ≠ i → kV V0 (A k) = kV V (A k)) : downAt (kV V) A i i n := by
  have := fix_down (key := fun x : Int => x) (A := fun k => kV V0 (A k)) (B := fun k => kV V (A k)) (n := n) (i := i) h fun k hk hne => (hv k hk hne).symm
  exact ⟨this.lo, this.rest, this.over⟩
theorem fix_key_up (h : heapTo (kV V0) A n) (hv : ∀ k, k < n → k ≠ i → kV V0 (A k) = kV V (A k)) (hd : heapFrom (kV V) A i n) : upAt (kV V) A n i := by
  have := fix_up (key := fun x : Int => x) (A := fun k => kV V0 (A k)) (B := fun k => kV V (A k)) (n := n) (i := i) h (fun k hk hne => (hv k hk hne).symm) hd
  exact ⟨this.rest, this.over⟩
theorem fix_key_moved (h : heapTo (kV V0) A n) (hi : i < n) (hv : ∀ k, k < n → k ≠ i → kV V0 (A k) = kV V (A k)) (hk : ∀ k, k ≠ i → par k < i → C k = A k) (hf : heapFrom (kV V) C i n)
    (ht : ∃ k, 0 < k ∧ k < n ∧ par k = i ∧ C i = A k) : heapTo (kV V) C n := by
  have := fix_moved (key := fun x : Int => x) (A := fun k => kV V0 (A k)) (B := fun k => kV V (A k)) (C := fun k => kV V (C k)) (n := n) (i := i) h (fun k hk hne => (hv k hk hne).symm) (fun k h1 h2 => by rw [hk k h1 h2]) hf (fun h0 => by
    obtain ⟨k, h1, h2, h3, h4⟩ := ht
    have hpk : par k < k := by unfold par; omega
    have hpi : par i < i := by unfold par; omega
    show kV V (A (par i)) ≤ kV V (C i)
    rw [h4, ← hv (par i) (by omega) (by omega), ← hv k h2 (by omega)]
    have g1 := h i h0 hi
    have g2 := h k h1 h2
    rw [h3] at g2
    omega)
  exact this
end
/-- what a Fix leaves -/
def FixRet (c : Nat) (K : Value → Array Value) (gq cap n : Nat) (A : Nat → Nat) (V : Nat → Rec) (w : World) (e : Ending) (w' : World) : Prop := ∃ C, e = .returned (.tuple #[]) ∧ QAt c K gq cap n C V w' ∧ heapTo (kV V) C n ∧ Ways gq n n A C w w'
set_option maxHeartbeats 4000000 in
theorem fix_any {c : Nat} {K : Value → Array Value} {gq cap n : Nat} {A : Nat → Nat} {V0 V : Nat → Rec} (i : Nat) (hi : i < n) (w : World) (h : QAt c K gq cap n A V w) (hh : heapTo (kV V0) A n) (hv : ∀ k, k < n → k ≠ i → kV V0 (A k) = kV V (A k)) :
    Calls Tryz.prog 67 #[hV c, .int .i64 (i : Int)] w (FixRet c K gq cap n A V w) := by
  have nl := q_nil "Len" _ _ len_m c
  have ml := fun fuel => q_method "Len" _ len_m c _ w h.var fuel
  have L := Lib.hid (len_any (some ⟨gq, 0, none⟩) n cap h.le h.hi w)
  have sm := h.small
  have D := Lib.hid (down_any (V := V) i n (by omega) (Nat.le_refl _) w h (fix_key_down hh hv))
  have hh := Lib.hid hh
  have hv := Lib.hid hv
  clear h
  go_enter Tryz.func67, Tryz.ntmps67
  go_wp2_with fail
  refine L.out.mono ?_; rintro e w' ⟨rfl, rfl⟩
  go_wp2_with fail
  refine D.out.mono ?_; rintro e w1 ⟨r, B, rfl, hq, hf, hw, hk, h0, h1⟩
  clear D L
  have HQ := Lib.hid hq
  have HW := Lib.hid hw
  cases r with
  | false =>
    obtain rfl := h0 rfl
    have U := Lib.hid (up_any (V := V) n i hi (Nat.le_refl _) w1 hq (fix_key_up hh.out hv.out hf))
    clear hq hf hw hk h0 h1
    go_wp2_with fail
    refine U.out.mono ?_; rintro e w2 ⟨rfl, C, hq2, hh2, hw2⟩
    have HZ : Hid (QAt c K gq cap n C V w2 ∧ heapTo (kV V) C n ∧ Ways gq n n B C w w2) := Lib.hid ⟨hq2, hh2, same_trans HW.out.same hw2.same, hw2.tail, HW.out.turn.then hw2.turn fun k _ hk => hk⟩
    clear U hq2 hh2 hw2
    go_wp2
    go_end0
    exact ⟨C, rfl, HZ.out⟩
  | true =>
    have HZ : Hid (QAt c K gq cap n B V w1 ∧ heapTo (kV V) B n ∧ Ways gq n n A B w w1) := Lib.hid ⟨hq, fix_key_moved hh.out hi hv.out hk hf (h1 rfl), hw⟩
    clear hq hf hw hk h0 h1 HQ HW
    go_wp2
    go_end0
    exact ⟨B, rfl, HZ.out⟩
/-- what a Pop, or a Remove, leaves: the item is the row's last, and out of it -/
def OutRet (c : Nat) (K : Value → Array Value) (gq cap k i : Nat) (A : Nat → Nat) (V : Nat → Rec) (w : World) (e : Ending) (w' : World) : Prop :=
  ∃ C, e = .returned (.iface 80 (ptrV (A i))) ∧ QAt c K gq cap k C V w' ∧ heapTo (kV V) C k ∧ sameTo A C (k + 1) ∧ C k = A i ∧ Blk (A i) (recCells (V (A i)) k) 91 w' ∧ Turn (fun j => j = c ∨ QSet gq (k + 1) A j) w w'
set_option maxHeartbeats 4000000 in
theorem pop_any {c : Nat} {K : Value → Array Value} {gq cap : Nat} {A : Nat → Nat} {V : Nat → Rec} (k : Nat) (w : World) (h : QAt c K gq cap (k + 1) A V w) (hh : heapTo (kV V) A (k + 1)) :
    Calls Tryz.prog 75 #[hV c] w (OutRet c K gq cap k 0 A V w) := by
  have nl := q_nil "Len" _ _ len_m c
  have ns := q_nil "Swap" _ _ swap_m c
  have np := q_nil "Pop" _ _ pop_m c
  have mp := q_method_ptr "Pop" _ pop_m c
  have ml := fun fuel => q_method "Len" _ len_m c _ w h.var fuel
  have ms := fun fuel => q_method "Swap" _ swap_m c _ w h.var fuel
  have L := Lib.hid (len_any (some ⟨gq, 0, none⟩) (k + 1) cap h.le h.hi w)
  have sm := h.small
  have S : Hid (Calls Tryz.prog 119 #[.slice (some ⟨gq, 0, none⟩) (k + 1) cap, .int .i64 0, .int .i64 (k : Int)] w fun e w' => e = .returned (.tuple #[]) ∧ QAt c K gq cap (k + 1) (swapF A 0 k) V w' ∧ Turn (QSet gq (k + 1) A) w w') := Lib.hid (by
    by_cases e : k = 0
    · subst e
      refine (swap_one 0 (by omega) w h).mono ?_
      rintro e w' ⟨rfl, hq, t⟩
      refine ⟨rfl, hq.congr fun j hj => ?_, t⟩
      have : j = 0 := by omega
      subst this
      rw [swapF_l]
    · exact swap_any 0 k (by omega) (by omega) (Ne.symm e) w h)
  have D := Lib.hid fun w1 h1 => down_any (c := c) (K := K) (gq := gq) (cap := cap) (n := k + 1) (A := swapF A 0 k) (V := V) 0 k (by omega) (by omega) w1 h1 (down_begin hh)
  clear h hh
  go_enter Tryz.func75, Tryz.ntmps75
  go_wp2_with fail
  refine L.out.mono ?_; rintro e w' ⟨rfl, rfl⟩
  go_wp2_with fail
  refine S.out.mono ?_; rintro e w1 ⟨rfl, hq1, t1⟩
  have T1 := Lib.hid t1
  have D1 := Lib.hid (D.out w1 hq1)
  clear S D hq1 t1 L ml ms
  go_wp2_with fail
  refine D1.out.mono ?_; rintro e w2 ⟨r, B, rfl, hq, hf, hw, -, -, -⟩
  have P := Lib.hid (qpop_any k w2 hq)
  have hs : sameTo A B (k + 1) := same_trans (same_swap A (by omega) (by omega)) (same_more hw.same hw.tail (by omega))
  have hB : B k = A 0 := by rw [hw.tail k (Nat.le_refl _), swapF_r]
  have HZ : Hid (heapTo (kV V) B k ∧ sameTo A B (k + 1) ∧ B k = A 0 ∧ Turn (fun j => j = c ∨ QSet gq (k + 1) A j) w w2) := Lib.hid ⟨heapFrom_zero hf, hs, hB, (T1.out.mono fun j _ hj => .inr hj).then hw.turn fun j _ hj => .inr (QSet.swap (by omega) (by omega) hj)⟩
  clear hq hf hw hs hB D1
  go_wp2_with fail
  refine P.out.mono ?_; rintro e w3 ⟨rfl, hq3, b3, t3⟩
  obtain ⟨z1, z2, z3, z4⟩ := HZ.out
  rw [z3] at b3
  rw [z3]
  have HY : Hid (OutRet c K gq cap k 0 A V w (.returned (.iface 80 (ptrV (A 0)))) w3) := Lib.hid ⟨B, rfl, hq3, z1, z2, z3, b3, z4.then t3 fun j _ hj => hj.elim .inl fun e => .inr (.inl e)⟩
  clear HZ P hq3 b3 t3 z1 z2 z3 z4 T1
  go_wp2
  go_ret
  exact HY.out
set_option maxHeartbeats 4000000 in
theorem remove_any {c : Nat} {K : Value → Array Value} {gq cap : Nat} {A : Nat → Nat} {V : Nat → Rec} (k i : Nat) (hi : i < k + 1) (w : World) (h : QAt c K gq cap (k + 1) A V w) (hh : heapTo (kV V) A (k + 1)) :
    Calls Tryz.prog 68 #[hV c, .int .i64 (i : Int)] w (OutRet c K gq cap k i A V w) := by
  have nl := q_nil "Len" _ _ len_m c
  have ns := q_nil "Swap" _ _ swap_m c
  have np := q_nil "Pop" _ _ pop_m c
  have mp := q_method_ptr "Pop" _ pop_m c
  have ml := fun fuel => q_method "Len" _ len_m c _ w h.var fuel
  have L := Lib.hid (len_any (some ⟨gq, 0, none⟩) (k + 1) cap h.le h.hi w)
  have sm := h.small
  by_cases e : k = i
  · subst e
    have P := Lib.hid (qpop_any k w h)
    have HH : Hid (heapTo (kV V) A k) := Lib.hid fun j h0 hj => hh j h0 (by omega)
    have t1 : ((k : Int) != (k : Int)) = false := by simp
    clear h hh
    go_enter Tryz.func68, Tryz.ntmps68
    go_wp2_with fail
    refine L.out.mono ?_; rintro e w' ⟨rfl, rfl⟩
    go_wp2_with fail
    refine P.out.mono ?_; rintro e w3 ⟨rfl, hq3, b3, t3⟩
    have HY : Hid (OutRet c K gq cap k k A V w (.returned (.iface 80 (ptrV (A k)))) w3) := Lib.hid ⟨A, rfl, hq3, HH.out, same_refl _ _, rfl, b3, t3.mono fun j _ hj => hj.elim .inl fun e => .inr (.inl e)⟩
    clear P hq3 b3 t3
    go_wp2
    go_ret
    exact HY.out
  · have hik : i < k := by omega
    have ms := fun fuel => q_method "Swap" _ swap_m c _ w h.var fuel
    have t1 : ((k : Int) != (i : Int)) = true := by rw [bne_iff_ne]; omega
    have S := Lib.hid (swap_any i k (by omega) (by omega) (by omega) w h)
    have hv : ∀ j, j < k → j ≠ i → swapF A i k j = A j := fun j hj hne => swapF_o A hne (by omega)
    have hhk : heapTo (kV V) A k := fun j h0 hj => hh j h0 (by omega)
    have hd := fix_down (key := kV V) (B := swapF A i k) hhk hv
    have HV := Lib.hid hv
    have HHK := Lib.hid hhk
    have D := Lib.hid fun w1 h1 => down_any (c := c) (K := K) (gq := gq) (cap := cap) (n := k + 1) (A := swapF A i k) (V := V) i k (by omega) (by omega) w1 h1 hd
    have HHH := Lib.hid hh
    clear h hh hd hv hhk
    go_enter Tryz.func68, Tryz.ntmps68
    go_wp2_with fail
    refine L.out.mono ?_; rintro e w' ⟨rfl, rfl⟩
    go_wp2_with fail
    refine S.out.mono ?_; rintro e w1 ⟨rfl, hq1, tt1⟩
    have T1 := Lib.hid tt1
    have D1 := Lib.hid (D.out w1 hq1)
    clear S D hq1 tt1 L ml ms
    go_wp2_with fail
    refine D1.out.mono ?_; rintro e w2 ⟨r, B, rfl, hq, hf, hw, hk2, h0, h1⟩
    clear D1
    have hs1 : sameTo A B (k + 1) := same_trans (same_swap A (by omega) (by omega)) (same_more hw.same hw.tail (by omega))
    have hB1 : B k = A i := by rw [hw.tail k (Nat.le_refl _), swapF_r]
    have ht1 : Turn (fun j => j = c ∨ QSet gq (k + 1) A j) w w2 := (T1.out.mono fun j _ hj => .inr hj).then hw.turn fun j _ hj => .inr (QSet.swap (by omega) (by omega) hj)
    cases r with
    | false =>
      obtain rfl := h0 rfl
      have U := Lib.hid (up_any (V := V) k i hik (by omega) w2 hq (fix_up HHK.out HV.out hf))
      have HS := Lib.hid hs1
      have HB := Lib.hid hB1
      have HT := Lib.hid ht1
      clear hq hf hw hk2 h0 h1 hs1 hB1 ht1
      go_wp2_with fail
      refine U.out.mono ?_; rintro e w4 ⟨rfl, C, hq4, hh4, hw4⟩
      have P := Lib.hid (qpop_any k w4 hq4)
      have HZ : Hid (heapTo (kV V) C k ∧ sameTo A C (k + 1) ∧ C k = A i ∧ Turn (fun j => j = c ∨ QSet gq (k + 1) A j) w w4) := Lib.hid ⟨hh4, same_trans HS.out (same_more hw4.same hw4.tail (by omega)), by rw [hw4.tail k (Nat.le_refl _)]; exact HB.out, HT.out.then hw4.turn fun j _ hj => .inr (QSet.same HS.out hj)⟩
      clear U hq4 hh4 hw4 HS HB HT
      go_wp2_with fail
      refine P.out.mono ?_; rintro e w3 ⟨rfl, hq3, b3, t3⟩
      obtain ⟨z1, z2, z3, z4⟩ := HZ.out
      rw [z3] at b3
      rw [z3]
      have HY : Hid (OutRet c K gq cap k i A V w (.returned (.iface 80 (ptrV (A i)))) w3) := Lib.hid ⟨C, rfl, hq3, z1, z2, z3, b3, z4.then t3 fun j _ hj => hj.elim .inl fun e => .inr (.inl e)⟩
      clear HZ P hq3 b3 t3 z1 z2 z3 z4 T1
      go_wp2
      go_ret
      exact HY.out
    | true =>
      have hz : heapTo (kV V) B k := fix_moved HHK.out HV.out hk2 hf (fun h0 => by
        obtain ⟨j, j1, j2, j3, j4⟩ := h1 rfl
        have hpj : par j < j := by unfold par; omega
        have hpi : par i < i := by unfold par; omega
        rw [j4, HV.out (par i) (by omega) (by omega), HV.out j j2 (by omega)]
        have g1 := HHK.out i h0 hik
        have g2 := HHK.out j j1 j2
        rw [j3] at g2
        omega)
      have P := Lib.hid (qpop_any k w2 hq)
      have HZ : Hid (heapTo (kV V) B k ∧ sameTo A B (k + 1) ∧ B k = A i ∧ Turn (fun j => j = c ∨ QSet gq (k + 1) A j) w w2) := Lib.hid ⟨hz, hs1, hB1, ht1⟩
      clear hq hf hw hk2 h0 h1 hs1 hB1 ht1 hz
      go_wp2_with fail
      refine P.out.mono ?_; rintro e w3 ⟨rfl, hq3, b3, t3⟩
      obtain ⟨z1, z2, z3, z4⟩ := HZ.out
      rw [z3] at b3
      rw [z3]
      have HY : Hid (OutRet c K gq cap k i A V w (.returned (.iface 80 (ptrV (A i)))) w3) := Lib.hid ⟨B, rfl, hq3, z1, z2, z3, b3, z4.then t3 fun j _ hj => hj.elim .inl fun e => .inr (.inl e)⟩
      clear HZ P hq3 b3 t3 z1 z2 z3 z4 T1
      go_wp2
      go_ret
      exact HY.out
end Go.Proofs.YtehjobjjlldckaaGreat
