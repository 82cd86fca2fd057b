/- The document's Encode of a record that may be. -/
import Derived.Test.YtfgjogaoogiddaaKRef
namespace Go.Proofs.Ytfgjogaoogiddaa
set_option linter.unusedVariables false
open Go.RowKit


set_option maxHeartbeats 8000000 in
theorem renc_1 (r : Rec) (h1 : Ok1 r) (f : Fits r) (vh vm : Value) (w : World) (hr : RecIn r vh vm w) :
    Calls Try.prog 11 #[recV r vh vm] w fun e w' => e = okRet (blk r) ∧ Below w.heap.size w w' := by
  have h : RecOk r := .inl h1
  have hfl : fieldsB r = leB 2 r.pos.toNat := by unfold fieldsB; rw [if_pos h1.1]
  have gh : Try.prog.stoodInHeld 27 = false := by kernel_rfl
  have mixed : Try.prog.follows .mixedOrders = true := by kernel_rfl
  have hb0 := balloc1 w (.cells (recC r vh vm) 27)
  have hB0 : Blk w.heap.size (recC r vh vm) 27 _ := Blk.new (recC r vh vm) 27 w
  have hr0 := hr.kept hb0
  have V := may_any r f vh vm _ hr0
  rw [decide_eq_true h] at V
  have V := Lib.hid V
  have hk := ok_kind h
  have hq := f.seq
  have hsm := f.sum
  have hbl : blk r = bs (bodyB r ++ List.replicate (128 - (bodyB r).length) 0) := rfl
  have hbd : bodyB r = magicB ++ (leB 1 r.kind.toNat ++ (leB 8 r.seq ++ fieldsB r)) := by unfold bodyB headB; simp
  have hln := body_length h
  rw [hbl]
  have HBD := Lib.hid hbd
  clear hbl hbd
  generalize bodyB r = body at *
  obtain ⟨w0, hw0⟩ : ∃ w0, w.alloc (.cells (recC r vh vm) 27) = w0 := ⟨_, rfl⟩
  rw [hw0] at hb0 hB0 hr0 V
  obtain ⟨ah, ch, rfl, a1, a2, a3, -⟩ := hr.1.shape
  obtain ⟨am, cm, rfl, b1, b2, b3, -⟩ := hr.2.shape
  have hs0 : w.heap.size < w0.heap.size := by rw [← hw0, size_alloc]; omega
  rw [hfl] at HBD
  obtain ⟨kind, seq, pos, homes, masked, sum⟩ := r
  obtain ⟨y1, y2, y3, y4, y5, y6⟩ := h1
  dsimp only at *
  obtain rfl := List.length_eq_zero_iff.1 y4
  obtain rfl := List.length_eq_zero_iff.1 y5
  subst y1
  subst y6
  obtain ⟨p, rfl⟩ := Int.eq_ofNat_of_zero_le y2
  have hp : p ≤ 510 := by omega
  rw [Int.toNat_natCast] at HBD
  have N1 : Hid (∀ w, Calls Try.prog 27 #[.string ⟨#[71, 76, 74, 119]⟩, .int .i64 1, .int .u64 1] w fun e w' => e = .returned (.string (bs (magicB ++ leB 1 1))) ∧ Below w.heap.size w w') := Lib.hid (fun w => rput_at magicB (by decide) 1 1 (by omega) (by decide) w)
  have N8 : Hid (∀ w, Calls Try.prog 27 #[.string (bs (magicB ++ leB 1 1)), .int .i64 8, .int .u64 (seq : Int)] w fun e w' => e = .returned (.string (bs (magicB ++ (leB 1 1 ++ leB 8 seq)))) ∧ Below w.heap.size w w') := Lib.hid (fun w => by
    have := rput_at (magicB ++ leB 1 1) (by decide) 8 seq (by omega) (by omega) w
    rw [List.append_assoc] at this; exact this)
  have N2 : Hid (∀ w, Calls Try.prog 27 #[.string (bs (magicB ++ (leB 1 1 ++ leB 8 seq))), .int .i64 2, .int .u64 (p : Int)] w fun e w' => e = .returned (.string (bs body)) ∧ Below w.heap.size w w') := Lib.hid (fun w => by
    have := rput_at (magicB ++ (leB 1 1 ++ leB 8 seq)) (by rw [List.length_append, List.length_append, leB_length, leB_length]; decide) 2 p (by omega) (by omega) w
    rw [show magicB ++ (leB 1 1 ++ leB 8 seq) ++ leB 2 p = body by rw [HBD.out]; simp] at this; exact this)
  generalize magicB ++ (leB 1 1 ++ leB 8 seq) = T8 at *
  generalize magicB ++ leB 1 1 = T1 at *
  have hw0 : w.alloc (.cells #[.int .i64 1, .int .u64 (seq : Int), .int .i64 (p : Int), .slice ah 0 ch, .slice am 0 cm, .int .u32 0] 27) = w0 := hw0
  clear h f hr hk hfl HBD a3 b3 y2 y3 y4 y5
  obtain ⟨c0, c1, c2, c3, c4, c5⟩ := rec_cells hB0
  go_enter Try.func11, Try.ntmps11
  go_wp2_with fail
  refine V.out.mono ?_; rintro e w1 ⟨rfl, hb⟩
  have hB1 := hB0.kept1 hb
  have hbb := bnext hb0 hb
  have kb := fun p : BelowP w1 => rec_cells (hB1.kept1 p.h)
  have k0 := fun p => (kb p).1
  have k1 := fun p => (kb p).2.1
  have k2 := fun p => (kb p).2.2.1
  have k3 := fun p => (kb p).2.2.2.1
  have k4 := fun p => (kb p).2.2.2.2.1
  have k5 := fun p => (kb p).2.2.2.2.2
  clear V kb hB0 hb0 hw0 hb hr0 hs0 c0 c1 c2 c3 c4 c5
  go_wp2
  refine wp_region_quiet_below mixed (by kernel_rfl) ?_
  repeat (go_big_quiet_step (first | (go_at_call_of 27 seq; refine calls_below (N8.out _)) | (go_at_call 27; refine calls_below (N1.out _))))
  refine wpQuiet_nil ?_
  intro w0q hw'
  obtain ⟨⟨wq, bq⟩, hw''⟩ := hw'
  have hw2 : wq = w0q := hw''.symm
  clear hw''
  subst hw2
  have hB2 := hB1.kept1 bq
  have hb2 := bnext hbb bq
  have hs2 := bq.size
  have hs1 := hB1.lt
  clear k0 k1 k2 k3 k4 k5 bq hbb hB1 N1 N8
  obtain ⟨x0, x1, x2, x3, x4, x5⟩ := rec_cells hB2
  go_wp2_with fail
  refine (N2.out _).mono ?_; rintro e w3 ⟨rfl, hb3⟩
  have hB3 := hB2.kept1 hb3
  have hbb3 := bnext hb2 hb3
  obtain ⟨z0, z1, z2, z3, z4, z5⟩ := rec_cells hB3
  clear x0 x1 x2 x3 x4 x5 hb2 hb3 hB2 N2
  go_wp2
  go_loop [4, 5] (fun s i => s = .string (bs body) ∧ i = .int .i64 0) (fun _ _ => 0)
  case atStart => exact ⟨rfl, rfl⟩
  case round =>
    obtain ⟨rfl, rfl⟩ := hrel
    go_wp2
    go_loop [4, 6] (fun s i => s = .string (bs body) ∧ i = .int .i64 0) (fun _ _ => 0)
    case atStart => exact ⟨rfl, rfl⟩
    case round =>
      obtain ⟨rfl, rfl⟩ := hrel
      have s6 : (bs body).size = body.length := bs_size body
      have M := Lib.hid (fun w => kz_made (128 - body.length) (by omega) w)
      have MB := Lib.hid (fun w => kz_back w (128 - body.length))
      have e128 : ((128 - body.length : Nat) : Int) = 128 - (body.length : Int) := by omega
      have s7 : (bs (zeroL (128 - body.length))).size = 128 - body.length := by rw [bs_size, zeroL_length]
      have HZ := Lib.hid (zeros_end body)
      have m1 := M.out w3
      have m2 := MB.out w3
      rw [e128] at m1
      have hb4 := balloc hbb3 (.cells (madeCells #[.int .u8 0] (128 - body.length)) 5)
      generalize w3.alloc (.cells (madeCells #[.int .u8 0] (128 - body.length)) 5) = w4 at *
      clear M MB
      go_wp2
      go_ret2
      exact ⟨congrArg okRet HZ.out, hb4⟩
set_option maxHeartbeats 8000000 in
theorem renc_4 (r : Rec) (h1 : Ok4 r) (f : Fits r) (vh vm : Value) (w : World) (hr : RecIn r vh vm w) :
    Calls Try.prog 11 #[recV r vh vm] w fun e w' => e = okRet (blk r) ∧ Below w.heap.size w w' := by
  have h : RecOk r := .inr (.inr (.inr h1))
  have hfl : fieldsB r = leB 4 r.sum := by unfold fieldsB; rw [if_neg (by rw [h1.1]; omega), if_pos h1.1]
  have gh : Try.prog.stoodInHeld 27 = false := by kernel_rfl
  have mixed : Try.prog.follows .mixedOrders = true := by kernel_rfl
  have hb0 := balloc1 w (.cells (recC r vh vm) 27)
  have hB0 : Blk w.heap.size (recC r vh vm) 27 _ := Blk.new (recC r vh vm) 27 w
  have hr0 := hr.kept hb0
  have V := may_any r f vh vm _ hr0
  rw [decide_eq_true h] at V
  have V := Lib.hid V
  have hk := ok_kind h
  have hq := f.seq
  have hsm := f.sum
  have hbl : blk r = bs (bodyB r ++ List.replicate (128 - (bodyB r).length) 0) := rfl
  have hbd : bodyB r = magicB ++ (leB 1 r.kind.toNat ++ (leB 8 r.seq ++ fieldsB r)) := by unfold bodyB headB; simp
  have hln := body_length h
  rw [hbl]
  have HBD := Lib.hid hbd
  clear hbl hbd
  generalize bodyB r = body at *
  obtain ⟨w0, hw0⟩ : ∃ w0, w.alloc (.cells (recC r vh vm) 27) = w0 := ⟨_, rfl⟩
  rw [hw0] at hb0 hB0 hr0 V
  obtain ⟨ah, ch, rfl, a1, a2, a3, -⟩ := hr.1.shape
  obtain ⟨am, cm, rfl, b1, b2, b3, -⟩ := hr.2.shape
  have hs0 : w.heap.size < w0.heap.size := by rw [← hw0, size_alloc]; omega
  rw [hfl] at HBD
  obtain ⟨kind, seq, pos, homes, masked, sum⟩ := r
  obtain ⟨y1, y2, y4, y5⟩ := h1
  dsimp only at *
  obtain rfl := List.length_eq_zero_iff.1 y4
  obtain rfl := List.length_eq_zero_iff.1 y5
  subst y1
  subst y2
  have N1 : Hid (∀ w, Calls Try.prog 27 #[.string ⟨#[71, 76, 74, 119]⟩, .int .i64 1, .int .u64 4] w fun e w' => e = .returned (.string (bs (magicB ++ leB 1 4))) ∧ Below w.heap.size w w') := Lib.hid (fun w => rput_at magicB (by decide) 1 4 (by omega) (by decide) w)
  have N8 : Hid (∀ w, Calls Try.prog 27 #[.string (bs (magicB ++ leB 1 4)), .int .i64 8, .int .u64 (seq : Int)] w fun e w' => e = .returned (.string (bs (magicB ++ (leB 1 4 ++ leB 8 seq)))) ∧ Below w.heap.size w w') := Lib.hid (fun w => by
    have := rput_at (magicB ++ leB 1 4) (by decide) 8 seq (by omega) (by omega) w
    rw [List.append_assoc] at this; exact this)
  have N2 : Hid (∀ w, Calls Try.prog 27 #[.string (bs (magicB ++ (leB 1 4 ++ leB 8 seq))), .int .i64 4, .int .u64 (sum : Int)] w fun e w' => e = .returned (.string (bs body)) ∧ Below w.heap.size w w') := Lib.hid (fun w => by
    have := rput_at (magicB ++ (leB 1 4 ++ leB 8 seq)) (by rw [List.length_append, List.length_append, leB_length, leB_length]; decide) 4 sum (by omega) (by omega) w
    rw [show magicB ++ (leB 1 4 ++ leB 8 seq) ++ leB 4 sum = body by rw [HBD.out]; simp] at this; exact this)
  generalize magicB ++ (leB 1 4 ++ leB 8 seq) = T8 at *
  generalize magicB ++ leB 1 4 = T1 at *
  have hw0 : w.alloc (.cells #[.int .i64 4, .int .u64 (seq : Int), .int .i64 0, .slice ah 0 ch, .slice am 0 cm, .int .u32 (sum : Int)] 27) = w0 := hw0
  clear h f hr hk hfl HBD a3 b3 y4 y5
  obtain ⟨c0, c1, c2, c3, c4, c5⟩ := rec_cells hB0
  go_enter Try.func11, Try.ntmps11
  go_wp2_with fail
  refine V.out.mono ?_; rintro e w1 ⟨rfl, hb⟩
  have hB1 := hB0.kept1 hb
  have hbb := bnext hb0 hb
  have kb := fun p : BelowP w1 => rec_cells (hB1.kept1 p.h)
  have k0 := fun p => (kb p).1
  have k1 := fun p => (kb p).2.1
  have k2 := fun p => (kb p).2.2.1
  have k3 := fun p => (kb p).2.2.2.1
  have k4 := fun p => (kb p).2.2.2.2.1
  have k5 := fun p => (kb p).2.2.2.2.2
  clear V kb hB0 hb0 hw0 hb hr0 hs0 c0 c1 c2 c3 c4 c5
  go_wp2
  refine wp_region_quiet_below mixed (by kernel_rfl) ?_
  repeat (go_big_quiet_step (first | (go_at_call_of 27 seq; refine calls_below (N8.out _)) | (go_at_call 27; refine calls_below (N1.out _))))
  refine wpQuiet_nil ?_
  intro w0q hw'
  obtain ⟨⟨wq, bq⟩, hw''⟩ := hw'
  have hw2 : wq = w0q := hw''.symm
  clear hw''
  subst hw2
  have hB2 := hB1.kept1 bq
  have hb2 := bnext hbb bq
  have hs2 := bq.size
  have hs1 := hB1.lt
  clear k0 k1 k2 k3 k4 k5 bq hbb hB1 N1 N8
  obtain ⟨x0, x1, x2, x3, x4, x5⟩ := rec_cells hB2
  go_wp2_with fail
  refine (N2.out _).mono ?_; rintro e w3 ⟨rfl, hb3⟩
  have hB3 := hB2.kept1 hb3
  have hbb3 := bnext hb2 hb3
  obtain ⟨z0, z1, z2, z3, z4, z5⟩ := rec_cells hB3
  clear x0 x1 x2 x3 x4 x5 hb2 hb3 hB2 N2
  go_wp2
  go_loop [4, 5] (fun s i => s = .string (bs body) ∧ i = .int .i64 0) (fun _ _ => 0)
  case atStart => exact ⟨rfl, rfl⟩
  case round =>
    obtain ⟨rfl, rfl⟩ := hrel
    go_wp2
    go_loop [4, 6] (fun s i => s = .string (bs body) ∧ i = .int .i64 0) (fun _ _ => 0)
    case atStart => exact ⟨rfl, rfl⟩
    case round =>
      obtain ⟨rfl, rfl⟩ := hrel
      have s6 : (bs body).size = body.length := bs_size body
      have M := Lib.hid (fun w => kz_made (128 - body.length) (by omega) w)
      have MB := Lib.hid (fun w => kz_back w (128 - body.length))
      have e128 : ((128 - body.length : Nat) : Int) = 128 - (body.length : Int) := by omega
      have s7 : (bs (zeroL (128 - body.length))).size = 128 - body.length := by rw [bs_size, zeroL_length]
      have HZ := Lib.hid (zeros_end body)
      have m1 := M.out w3
      have m2 := MB.out w3
      rw [e128] at m1
      have hb4 := balloc hbb3 (.cells (madeCells #[.int .u8 0] (128 - body.length)) 5)
      generalize w3.alloc (.cells (madeCells #[.int .u8 0] (128 - body.length)) 5) = w4 at *
      clear M MB
      go_wp2
      go_ret2
      exact ⟨congrArg okRet HZ.out, hb4⟩
end Go.Proofs.Ytfgjogaoogiddaa
