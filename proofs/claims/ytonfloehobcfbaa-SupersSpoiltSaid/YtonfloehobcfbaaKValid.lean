/- blank, valid. -/
import Derived.Test.YtonfloehobcfbaaKVal
namespace Go.Proofs.Ytonfloehobcfbaa
set_option linter.unusedVariables false
open Go.RowKit

def Blank (pos : Int) (nh nm sum : Nat) : Prop := pos = 0 ∧ nh = 0 ∧ nm = 0 ∧ sum = 0
instance (pos : Int) (nh nm sum : Nat) : Decidable (Blank pos nh nm sum) := by unfold Blank; infer_instance
set_option maxHeartbeats 2000000 in
theorem blank_any (kind pos : Int) (seq sum nh nm ch cm : Nat) (ah am : Option Addr) (w : World) :
    Calls Try.prog 61 #[.agg #[.int .i64 kind, .int .u64 (seq : Int), .int .i64 pos, .slice ah nh ch, .slice am nm cm, .int .u32 (sum : Int)]] w fun e w' => e = .returned (.bool (decide (Blank pos nh nm sum))) ∧ Below w.heap.size w w' := by
  have hb := balloc1 w (.cells #[.int .i64 kind, .int .u64 (seq : Int), .int .i64 pos, .slice ah nh ch, .slice am nm cm, .int .u32 (sum : Int)] 37)
  have gh : Try.prog.stoodInHeld 37 = false := by kernel_rfl
  by_cases h1 : pos = 0
  · subst h1
    by_cases h2 : nh = 0
    · subst h2
      by_cases h3 : nm = 0
      · subst h3
        by_cases h4 : sum = 0
        · subst h4
          go_enter Try.func61, Try.ntmps61
          go_wp2
          go_ret
          exact ⟨rfl, hb⟩
        · have HE : Hid (decide (Blank 0 0 0 sum) = false) := Lib.hid (by rw [decide_eq_false_iff_not]; exact fun h => h4 h.2.2.2)
          have d : ((sum : Int) == 0) = false := by rw [beq_eq_false_iff_ne]; omega
          go_enter Try.func61, Try.ntmps61
          go_wp2
          go_ret
          exact ⟨ret_bool (by rw [HE.out]), hb⟩
      · have HE : Hid (decide (Blank 0 0 nm sum) = false) := Lib.hid (by rw [decide_eq_false_iff_not]; exact fun h => h3 h.2.2.1)
        have d : ((nm : Int) == 0) = false := by rw [beq_eq_false_iff_ne]; omega
        go_enter Try.func61, Try.ntmps61
        go_wp2
        go_ret
        exact ⟨ret_bool (by rw [HE.out]), hb⟩
    · have HE : Hid (decide (Blank 0 nh nm sum) = false) := Lib.hid (by rw [decide_eq_false_iff_not]; exact fun h => h2 h.2.1)
      have d : ((nh : Int) == 0) = false := by rw [beq_eq_false_iff_ne]; omega
      go_enter Try.func61, Try.ntmps61
      go_wp2
      go_ret
      exact ⟨ret_bool (by rw [HE.out]), hb⟩
  · have HE : Hid (decide (Blank pos nh nm sum) = false) := Lib.hid (by rw [decide_eq_false_iff_not]; exact fun h => h1 h.1)
    have d : (pos == 0) = false := by rw [beq_eq_false_iff_ne]; omega
    go_enter Try.func61, Try.ntmps61
    go_wp2
    go_ret
    exact ⟨ret_bool (by rw [HE.out]), hb⟩

/-- valid's end: what it says is that the fields of the kind may be, and that all others are blank -/
theorem ok_1 {r : Rec} (h : r.kind = 1) : RecOk r ↔ (0 ≤ r.pos ∧ r.pos ≤ 510) ∧ Blank 0 r.homes.length r.masked.length r.sum := by
  unfold RecOk Ok1 Ok2 Ok3 Ok4 Blank; simp [h, and_assoc]
theorem ok_2 {r : Rec} (h : r.kind = 2) : RecOk r ↔ (HomesOk r.homes 24 ∧ r.masked.length = r.homes.length) ∧ Blank r.pos 0 0 r.sum := by
  unfold RecOk Ok1 Ok2 Ok3 Ok4 Blank; simp [h]; exact ⟨fun ⟨a, b, c, d⟩ => ⟨⟨a, b⟩, c, d⟩, fun ⟨⟨a, b⟩, c, d⟩ => ⟨a, b, c, d⟩⟩
theorem ok_3 {r : Rec} (h : r.kind = 3) : RecOk r ↔ HomesOk r.homes 28 ∧ Blank r.pos 0 r.masked.length r.sum := by
  unfold RecOk Ok1 Ok2 Ok3 Ok4 Blank; simp [h]; intro _; exact ⟨fun ⟨b, c, d⟩ => ⟨c, b, d⟩, fun ⟨c, b, d⟩ => ⟨b, c, d⟩⟩
theorem ok_4 {r : Rec} (h : r.kind = 4) : RecOk r ↔ Blank r.pos r.homes.length r.masked.length 0 := by
  unfold RecOk Ok1 Ok2 Ok3 Ok4 Blank; simp [h]
theorem ok_no {r : Rec} (h1 : r.kind ≠ 1) (h2 : r.kind ≠ 2) (h3 : r.kind ≠ 3) (h4 : r.kind ≠ 4) : ¬ RecOk r := by
  rintro (h | h | h | h)
  · exact h1 h.1
  · exact h2 h.1
  · exact h3 h.1
  · exact h4 h.1
theorem dec_iff {p q : Prop} [Decidable p] [Decidable q] (h : p ↔ q) : decide p = decide q := by
  by_cases hp : p
  · rw [decide_eq_true hp, decide_eq_true (h.1 hp)]
  · rw [decide_eq_false hp, decide_eq_false fun k => hp (h.2 k)]

set_option maxHeartbeats 4000000 in
theorem valid_rec (r : Rec) (f : Fits r) (vh vm : Value) (w : World) (h : RecIn r vh vm w) :
    Calls Try.prog 48 #[recV r vh vm] w fun e w' => e = .returned (.bool (decide (RecOk r))) ∧ Below w.heap.size w w' := by
  obtain ⟨⟨-, ah, ch, rfl, -⟩, ⟨-, am, cm, rfl, -⟩⟩ := id h
  have gh : Try.prog.stoodInHeld 37 = false := by kernel_rfl
  have hfp := f.pos
  have BL := fun kind pos seq sum nh nm ch cm ah am w => Lib.hid (blank_any kind pos seq sum nh nm ch cm ah am w)
  have VH := fun (most : Int) (hm : I64 most) (w' : World) (hw : Below w.heap.size w w') => Lib.hid (vhomes_any r.homes most hm f.homes (.slice ah r.homes.length ch) w' (h.1.kept hw))
  have hd := ok_no (r := r)
  by_cases k1 : r.kind = 1
  · rw [dec_iff (ok_1 k1)]
    clear hd
    obtain ⟨kind, seq, pos, homes, masked, sum⟩ := r
    dsimp only at *
    subst k1
    have B := BL 1 0 seq sum homes.length masked.length ch cm ah am
    clear h BL VH f
    by_cases p1 : 0 ≤ pos
    · by_cases p2 : pos ≤ 510
      · have HE : Hid (decide ((0 ≤ pos ∧ pos ≤ 510) ∧ Blank 0 homes.length masked.length sum) = decide (Blank 0 homes.length masked.length sum)) := Lib.hid (dec_iff ⟨fun h => h.2, fun h => ⟨⟨p1, p2⟩, h⟩⟩)
        generalize decide (Blank 0 homes.length masked.length sum) = bl at *
        rw [HE.out]; clear HE
        go_enter Try.func48, Try.ntmps48
        go_wp2_with (go_at_call 61; refine ((B _).out).mono ?_; rintro e w1 ⟨rfl, hb⟩)
        go_ret
        exact ⟨rfl, below_boxed (below_boxed hb)⟩
      · have HE : Hid (decide ((0 ≤ pos ∧ pos ≤ 510) ∧ Blank 0 homes.length masked.length sum) = false) := Lib.hid (by rw [decide_eq_false_iff_not]; exact fun h => p2 h.1.2)
        clear B
        rw [HE.out]; clear HE
        go_enter Try.func48, Try.ntmps48
        go_wp2
        go_ret
        exact ⟨rfl, balloc (balloc1 _ _) _⟩
    · have HE : Hid (decide ((0 ≤ pos ∧ pos ≤ 510) ∧ Blank 0 homes.length masked.length sum) = false) := Lib.hid (by rw [decide_eq_false_iff_not]; exact fun h => p1 h.1.1)
      clear B
      rw [HE.out]; clear HE
      go_enter Try.func48, Try.ntmps48
      go_wp2
      go_ret
      exact ⟨rfl, balloc (balloc1 _ _) _⟩
  · by_cases k2 : r.kind = 2
    · rw [dec_iff (ok_2 k2)]
      clear hd k1
      obtain ⟨kind, seq, pos, homes, masked, sum⟩ := r
      dsimp only at *
      subst k2
      have B := BL 2 pos seq sum 0 0 0 0 none none
      have V := VH 24 (by omega)
      clear h BL VH f
      by_cases p1 : HomesOk homes 24
      · rw [decide_eq_true p1] at V
        by_cases p2 : masked.length = homes.length
        · have HE : Hid (decide ((HomesOk homes 24 ∧ masked.length = homes.length) ∧ Blank pos 0 0 sum) = decide (Blank pos 0 0 sum)) := Lib.hid (dec_iff ⟨fun h => h.2, fun h => ⟨⟨p1, p2⟩, h⟩⟩)
          have d : ((masked.length : Int) == (homes.length : Int)) = true := by rw [beq_iff_eq]; omega
          generalize decide (Blank pos 0 0 sum) = bl at *
          clear p2
          rw [HE.out]; clear HE
          go_enter Try.func48, Try.ntmps48
          go_wp2_with (first | (go_at_call 61; refine ((B _).out).mono ?_; rintro e w1 ⟨rfl, hb⟩) | (go_at_call 60; refine ((V _ (balloc (balloc1 _ _) _)).out).mono ?_; rintro e w1 ⟨rfl, rfl⟩))
          go_ret
          exact ⟨rfl, below_boxed (below_boxed hb)⟩
        · have HE : Hid (decide ((HomesOk homes 24 ∧ masked.length = homes.length) ∧ Blank pos 0 0 sum) = false) := Lib.hid (by rw [decide_eq_false_iff_not]; exact fun h => p2 h.1.2)
          have d : ((masked.length : Int) == (homes.length : Int)) = false := by rw [beq_eq_false_iff_ne]; omega
          clear B p2
          rw [HE.out]; clear HE
          go_enter Try.func48, Try.ntmps48
          go_wp2_with (go_at_call 60; refine ((V _ (balloc (balloc1 _ _) _)).out).mono ?_; rintro e w1 ⟨rfl, rfl⟩)
          go_ret
          exact ⟨rfl, balloc (balloc1 _ _) _⟩
      · rw [decide_eq_false p1] at V
        have HE : Hid (decide ((HomesOk homes 24 ∧ masked.length = homes.length) ∧ Blank pos 0 0 sum) = false) := Lib.hid (by rw [decide_eq_false_iff_not]; exact fun h => p1 h.1.1)
        clear B
        rw [HE.out]; clear HE
        go_enter Try.func48, Try.ntmps48
        go_wp2_with (go_at_call 60; refine ((V _ (balloc (balloc1 _ _) _)).out).mono ?_; rintro e w1 ⟨rfl, rfl⟩)
        go_ret
        exact ⟨rfl, balloc (balloc1 _ _) _⟩
    · by_cases k3 : r.kind = 3
      · rw [dec_iff (ok_3 k3)]
        clear hd k1 k2
        obtain ⟨kind, seq, pos, homes, masked, sum⟩ := r
        dsimp only at *
        subst k3
        have B := BL 3 pos seq sum 0 masked.length 0 cm none am
        have V := VH 28 (by omega)
        clear h BL VH f
        by_cases p1 : HomesOk homes 28
        · rw [decide_eq_true p1] at V
          have HE : Hid (decide (HomesOk homes 28 ∧ Blank pos 0 masked.length sum) = decide (Blank pos 0 masked.length sum)) := Lib.hid (dec_iff ⟨fun h => h.2, fun h => ⟨p1, h⟩⟩)
          generalize decide (Blank pos 0 masked.length sum) = bl at *
          rw [HE.out]; clear HE
          go_enter Try.func48, Try.ntmps48
          go_wp2_with (first | (go_at_call 61; refine ((B _).out).mono ?_; rintro e w1 ⟨rfl, hb⟩) | (go_at_call 60; refine ((V _ (balloc (balloc1 _ _) _)).out).mono ?_; rintro e w1 ⟨rfl, rfl⟩))
          go_ret
          exact ⟨rfl, below_boxed (below_boxed hb)⟩
        · rw [decide_eq_false p1] at V
          have HE : Hid (decide (HomesOk homes 28 ∧ Blank pos 0 masked.length sum) = false) := Lib.hid (by rw [decide_eq_false_iff_not]; exact fun h => p1 h.1)
          clear B
          rw [HE.out]; clear HE
          go_enter Try.func48, Try.ntmps48
          go_wp2_with (go_at_call 60; refine ((V _ (balloc (balloc1 _ _) _)).out).mono ?_; rintro e w1 ⟨rfl, rfl⟩)
          go_ret
          exact ⟨rfl, balloc (balloc1 _ _) _⟩
      · by_cases k4 : r.kind = 4
        · rw [dec_iff (ok_4 k4)]
          clear hd k1 k2 k3
          obtain ⟨kind, seq, pos, homes, masked, sum⟩ := r
          dsimp only at *
          subst k4
          have B := BL 4 pos seq 0 homes.length masked.length ch cm ah am
          clear h BL VH f
          generalize decide (Blank pos homes.length masked.length 0) = bl at *
          go_enter Try.func48, Try.ntmps48
          go_wp2_with (go_at_call 61; refine ((B _).out).mono ?_; rintro e w1 ⟨rfl, hb⟩)
          go_ret
          exact ⟨rfl, below_boxed (below_boxed hb)⟩
        · have HE : Hid (decide (RecOk r) = false) := Lib.hid (decide_eq_false (hd k1 k2 k3 k4))
          clear hd BL VH f h
          obtain ⟨kind, seq, pos, homes, masked, sum⟩ := r
          dsimp only at *
          have d1 : (kind == 1) = false := by rw [beq_eq_false_iff_ne]; exact k1
          have d2 : (kind == 2) = false := by rw [beq_eq_false_iff_ne]; exact k2
          have d3 : (kind == 3) = false := by rw [beq_eq_false_iff_ne]; exact k3
          have d4 : (kind == 4) = false := by rw [beq_eq_false_iff_ne]; exact k4
          clear k1 k2 k3 k4
          rw [HE.out]; clear HE
          go_enter Try.func48, Try.ntmps48
          go_wp2
          go_ret
          exact ⟨rfl, balloc (balloc1 _ _) _⟩
end Go.Proofs.Ytonfloehobcfbaa
