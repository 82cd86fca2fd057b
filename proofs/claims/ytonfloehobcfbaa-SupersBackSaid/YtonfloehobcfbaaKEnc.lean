/- Encode. -/
import Derived.Test.YtonfloehobcfbaaKFields
namespace Go.Proofs.Ytonfloehobcfbaa
set_option linter.unusedVariables false
open Go.RowKit

abbrev okRet (s : ByteArray) : Ending := .returned (.tuple #[.string s, .int .i64 0])
abbrev badRet : Ending := .returned (.tuple #[.string ⟨#[]⟩, .int .i64 2])
set_option maxHeartbeats 4000000 in
theorem enc_no (r : Rec) (h : ¬ RecOk r) (f : Fits r) (vh vm : Value) (w : World) (hr : RecIn r vh vm w) :
    Calls Try.prog 32 #[recV r vh vm] w fun e w' => e = badRet ∧ Below w.heap.size w w' := by
  have gh : Try.prog.stoodInHeld 37 = false := by kernel_rfl
  have hb0 := balloc1 w (.cells (recC r vh vm) 37)
  have V := valid_rec r f vh vm _ (hr.kept hb0)
  rw [decide_eq_false h] at V
  have V := Lib.hid V
  obtain ⟨kind, seq, pos, homes, masked, sum⟩ := r
  clear h f hr
  go_enter Try.func32, Try.ntmps32
  go_wp2_with fail
  refine V.out.mono ?_; rintro e w1 ⟨rfl, hb⟩
  have hbb := below_boxed hb
  go_wp2
  go_ret2
  exact ⟨rfl, hbb⟩
theorem magic_bs (l : List UInt8) : (⟨#[71, 76, 74, 119]⟩ : ByteArray) ++ bs l = bs (magicB ++ l) := bs_append magicB l
theorem zeros_end (b : List UInt8) : bs b ++ bs (zeroL (128 - b.length)) = bs (b ++ List.replicate (128 - b.length) 0) := by rw [bs_append]; rfl
set_option maxHeartbeats 8000000 in
theorem enc_yes (r : Rec) (h : RecOk r) (f : Fits r) (vh vm : Value) (w : World) (hr : RecIn r vh vm w) :
    Calls Try.prog 32 #[recV r vh vm] w fun e w' => e = okRet (blk r) ∧ Below w.heap.size w w' := by
  have gh : Try.prog.stoodInHeld 37 = false := by kernel_rfl
  have mixed : Try.prog.follows .mixedOrders = true := by kernel_rfl
  have hb0 := balloc1 w (.cells (recC r vh vm) 37)
  have hB0 : Blk w.heap.size (recC r vh vm) 37 _ := Blk.new (recC r vh vm) 37 w
  have hr0 := hr.kept hb0
  have V := valid_rec r f vh vm _ hr0
  rw [decide_eq_true h] at V
  have V := Lib.hid V
  have hk := ok_kind h
  have hq := f.seq
  have FI := Lib.hid (fun (w' : World) (hw : RecIn r vh vm w') => fields_any r h f vh vm w' hw)
  have hbl : blk r = bs (bodyB r ++ List.replicate (128 - (bodyB r).length) 0) := rfl
  have hbd : bodyB r = magicB ++ (leB 1 r.kind.toNat ++ (leB 8 r.seq ++ fieldsB r)) := by unfold bodyB headB; simp
  have hln := body_length h
  have HFL : (fieldsB r).length ≤ 73 := fields_length h
  rw [hbl]
  have HBD := Lib.hid hbd
  clear hbl hbd
  generalize bodyB r = body at *
  generalize fieldsB r = fl at *
  obtain ⟨w0, hw0⟩ : ∃ w0, w.alloc (.cells (recC r vh vm) 37) = w0 := ⟨_, rfl⟩
  rw [hw0] at hb0 hB0 hr0 V
  have RI := fun (w' : World) (hw : Below w0.heap.size w0 w') => (show RecIn r vh vm w' from hr0.kept hw)
  obtain ⟨kind, seq, pos, homes, masked, sum⟩ := r
  dsimp only at *
  obtain ⟨kn, rfl⟩ := Int.eq_ofNat_of_zero_le (show 0 ≤ kind by omega)
  rw [Int.toNat_natCast] at HBD
  have N1 : Hid (∀ w, Calls Try.prog 49 #[.int .i64 1, .int .u64 (kn : Int)] w fun e w' => e = .returned (.string (bs (leB 1 kn))) ∧ Below w.heap.size w w') := Lib.hid (fun w => number_any 1 kn (by omega) (by omega) w)
  have N8 : Hid (∀ w, Calls Try.prog 49 #[.int .i64 8, .int .u64 (seq : Int)] w fun e w' => e = .returned (.string (bs (leB 8 seq))) ∧ Below w.heap.size w w') := Lib.hid (fun w => number_any 8 seq (by omega) (by omega) w)
  have hk4 : kn ≤ 4 := by omega
  have hs0 : w.heap.size < w0.heap.size := by rw [← hw0, size_alloc]; omega
  obtain ⟨c0, c1, c2, c3, c4, c5⟩ := rec_cells hB0
  clear h f hr hr0 hk
  go_enter Try.func32, Try.ntmps32
  go_wp2_with fail
  refine V.out.mono ?_; rintro e w1 ⟨rfl, hb⟩
  have hB1 := hB0.kept1 hb
  have hbb := bnext hb0 hb
  have kb := fun p : BelowP w1 => rec_cells (hB1.kept1 p.h)
  have k0 := fun p => (kb p).1
  have k1 := fun p => (kb p).2.1
  have k2 := fun p => (kb p).2.2.1
  have k3 := fun p => (kb p).2.2.2.1
  have k4 := fun p => (kb p).2.2.2.2.1
  have k5 := fun p => (kb p).2.2.2.2.2
  have F2 := Lib.hid (fun p : BelowP w1 => FI.out p.to (RI _ (bnext hb p.h)))
  have s1 : (bs (leB 1 kn)).size = 1 := by rw [bs_size, leB_length]
  have s2 : (bs (leB 8 seq)).size = 8 := by rw [bs_size, leB_length]
  have s3 : (bs fl).size = fl.length := bs_size fl
  have s4 : (bs (magicB ++ leB 1 kn)).size = 5 := by rw [bs_size, List.length_append, leB_length]; rfl
  have s5 : (bs (magicB ++ (leB 1 kn ++ leB 8 seq))).size = 13 := by rw [bs_size, List.length_append, List.length_append, leB_length, leB_length]; rfl
  have mg := magic_bs
  have ap := bs_append
  clear V kb FI RI hB0 hb0 hw0 hb c0 c1 c2 c3 c4 c5
  go_wp2
  refine wp_region_quiet_below mixed (by kernel_rfl) ?_
  repeat (go_big_quiet_step (first | (go_at_call_of 49 kn; refine calls_below (N1.out _)) | (go_at_call_of 49 seq; refine calls_below (N8.out _)) | (go_at_call 50; refine calls_below (F2.out _))))
  refine wpQuiet_nil ?_
  intro w0q hw'
  obtain ⟨⟨wq, bq⟩, hw''⟩ := hw'
  have hw2 : wq = w0q := hw''.symm
  clear hw''
  subst hw2
  rw [← HBD.out]
  have hbq := bnext hbb bq
  have s6 : (bs body).size = body.length := bs_size body
  have RP : Hid (∀ w, Calls Try.prog 20 #[.string ⟨#[0]⟩, .int .i64 (128 - (body.length : Int))] w fun e w' => e = .returned (.string (bs (zeroL (128 - body.length)))) ∧ Below w.heap.size w w') := Lib.hid fun w => by
    have := repeat_any (128 - body.length) (by omega) w
    rw [show ((128 - body.length : Nat) : Int) = 128 - (body.length : Int) by omega] at this
    exact this
  have s7 : (bs (zeroL (128 - body.length))).size = 128 - body.length := by rw [bs_size, zeroL_length]
  have HZ := Lib.hid (zeros_end body)
  clear k0 k1 k2 k3 k4 k5 mg ap s1 s2 s3 s4 s5 bq hbb
  go_wp2_with fail
  refine (RP.out _).mono ?_; rintro e w3 ⟨rfl, hb3⟩
  have hb4 := bnext hbq hb3
  go_wp2
  go_ret2
  exact ⟨congrArg okRet HZ.out, hb4⟩
end Go.Proofs.Ytonfloehobcfbaa
