/- The walk of RecordsFields. -/
import Derived.Test.YthkmcfomnkcljaaKAlive
namespace Go.Proofs.Ythkmcfomnkcljaa
set_option linter.unusedVariables false
open Go.RowKit

theorem blkB_cut (r : Rec) : blkB r = (magicB ++ leB 1 r.kind.toNat) ++ leB 8 r.seq ++ (fieldsB r ++ List.replicate (128 - (bodyB r).length) 0) := by
  unfold blkB bodyB headB; simp
theorem seq_ok {r : Rec} (q : Nat) (h : RecOk r) : RecOk { r with seq := q } := h
theorem seq_fits {r : Rec} {q : Nat} (hq : q < 18446744073709551616) (f : Fits r) : Fits { r with seq := q } := ⟨f.kind, hq, f.pos, f.homes, f.sum⟩
theorem seq_head (r : Rec) (q : Nat) : ((blk r).extract 0 5).toList = ((blk { r with seq := q }).extract 0 5).toList := by
  have key : ∀ t : Rec, ((blk t).data.toList.drop 0).take (5 - 0) = magicB ++ leB 1 t.kind.toNat := fun t => by
    have h1 : (blk t).data.toList = (magicB ++ leB 1 t.kind.toNat) ++ (leB 8 t.seq ++ (fieldsB t ++ List.replicate (128 - (bodyB t).length) 0)) := by rw [blk_list]; simp
    have e : (5 : Nat) - 0 = (magicB ++ leB 1 t.kind.toNat).length := by rw [List.length_append, leB_length]; rfl
    rw [h1, e, List.drop_zero, List.take_left]
  rw [ext_list, ext_list, key, key]
theorem seq_tail {r : Rec} (h : RecOk r) (q : Nat) : ((blk r).extract 13 128).toList = ((blk { r with seq := q }).extract 13 128).toList := by
  have e1 : (bodyB { r with seq := q }).length = (bodyB r).length := by unfold bodyB; rw [List.length_append, List.length_append, headB_length, headB_length]; rfl
  have key : ∀ t : Rec, (blk t).data.toList.drop 13 = fieldsB t ++ List.replicate (128 - (bodyB t).length) 0 := fun t => by
    have : (blk t).data.toList = headB t ++ (fieldsB t ++ List.replicate (128 - (bodyB t).length) 0) := by rw [blk_list]; unfold headB; simp
    rw [this, ← headB_length t, List.drop_left]
  rw [ext_list, ext_list, key, key, e1]; rfl
theorem seq_same {r : Rec} (h : RecOk r) (f : Fits r) {q : Nat} (hq : q < 18446744073709551616) : ((blk r).toList == (blk { r with seq := q }).toList) = (q == r.seq) := by
  by_cases e : q = r.seq
  · subst e; simp
  · have h1 : blk r ≠ blk { r with seq := q } := fun k => by
      have a := (isBlk_of h f).2
      have b := (isBlk_of (seq_ok q h) (seq_fits hq f)).2
      rw [← k, a] at b
      exact e (by rw [b])
    rw [text_ne h1, beq_eq_false_iff_ne.2 e]
set_option maxHeartbeats 8000000 in
theorem fields_walk (r : Rec) (f : Fits r) (vh vm : Value) (q : Nat) (hq : q < 18446744073709551616) (w : World) (hr : RecIn r vh vm w) :
    Calls Try.prog 8 #[recV r vh vm, .int .u64 (q : Int)] w fun e w' => e = .returned (.bool true) ∧ Below w.heap.size w w' := by
  have gh : Try.prog.stoodInHeld 27 = false := by kernel_rfl
  have mixed : Try.prog.follows .mixedOrders = true := by kernel_rfl
  obtain ⟨ah, ch, rfl, a1, a2, -⟩ := hr.1.shape
  obtain ⟨am, cm, rfl, b1, b2, -⟩ := hr.2.shape
  have hb0 := balloc1 w (.cells (recC r (.slice ah r.homes.length ch) (.slice am r.masked.length cm)) 27)
  by_cases l1 : r.homes.length ≤ 1000
  · by_cases l2 : r.masked.length ≤ 1000
    · have AL := Lib.hid alive_any
      obtain ⟨w0, hw0⟩ : ∃ w0, w.alloc (.cells (recC r (.slice ah r.homes.length ch) (.slice am r.masked.length cm)) 27) = w0 := ⟨_, rfl⟩
      have HA : Blk w.heap.size (recC r (.slice ah r.homes.length ch) (.slice am r.masked.length cm)) 27 w0 := by rw [← hw0]; exact Blk.new _ _ w
      rw [hw0] at hb0
      have hr0 := hr.kept hb0
      have hsz0 : w.heap.size < w0.heap.size := by rw [← hw0, size_alloc]; omega
      by_cases hok : RecOk r
      · have E := enc_yes r hok f _ _ w0 hr0
        have E2 := fun vh2 vm2 w' (h2 : RecIn r vh2 vm2 w') => enc_yes { r with seq := q } (seq_ok q hok) (seq_fits hq f) vh2 vm2 w' h2
        have s1 := blk_size hok
        have s2 := blk_size (seq_ok q hok)
        have e1 := seq_head r q
        have e2 := seq_tail hok q
        have e3 := seq_same hok f hq
        have hk := blk_kind hok
        have hqq := blk_seq f
        have hmax : (blk r).size ≤ maxLen := by rw [s1]; unfold maxLen; omega
        have GI : Hid (∀ w, Calls Try.prog 20 #[.string (blk r), .int .i64 4, .int .i64 1] w fun e w' => e = .returned (.tuple #[.int .i64 r.kind, .bool true]) ∧ w = w') := Lib.hid fun w => by
          have := geti_yes (blk r) hmax 4 1 (by omega) (by omega) w
          rw [show ((leN (fieldAt (blk r) 4 1) : Nat) : Int) = r.kind from hk] at this
          exact this
        have GS : Hid (∀ w, Calls Try.prog 21 #[.string (blk r), .int .i64 5, .int .i64 8] w fun e w' => e = .returned (.tuple #[.int .u64 (r.seq : Int), .bool true]) ∧ w = w') := Lib.hid fun w => by
          have := get_yes (blk r) hmax 5 8 (by omega) (by omega) w
          rwa [hqq] at this
        generalize blk { r with seq := q } = T at *
        generalize blk r = S at *
        obtain ⟨kind, seq, pos, homes, masked, sum⟩ := r
        dsimp only at *
        have d1 : ((S.extract 0 5).toList == (T.extract 0 5).toList) = true := by rw [beq_iff_eq]; exact e1
        have d2 : ((S.extract 13 128).toList == (T.extract 13 128).toList) = true := by rw [beq_iff_eq]; exact e2
        have d3 : ((q : Int) == (seq : Int)) = (q == seq) := by
          by_cases h : q = seq
          · subst h; simp
          · rw [beq_eq_false_iff_ne.2 h, beq_eq_false_iff_ne]; omega
        have dk : (kind != kind) = false := by simp
        have dq : ((seq : Int) != (seq : Int)) = false := by simp
        rw [← e3] at d3
        generalize hX : (S.toList == T.toList) = X at *
        have E := Lib.hid E
        have E2 := Lib.hid E2
        obtain ⟨c0, c1, c2, c3, c4, c5⟩ := rec_cells HA
        clear hok hr f e1 e2 e3 hk hqq hmax hq
        go_enter Try.func8, Try.ntmps8
        go_wp2_with fail
        refine E.out.mono ?_; rintro e w1 ⟨rfl, k1⟩
        have HA1 := HA.kept1 k1
        have hr1 := hr0.kept k1
        have hb1 := bnext hb0 k1
        have hs1 := k1.size
        obtain ⟨x0, x1, x2, x3, x4, x5⟩ := rec_cells HA1
        obtain ⟨w2, hw2⟩ : ∃ w2, w1.alloc (.cells #[.int .i64 kind, .int .u64 (q : Int), .int .i64 pos, .slice ah homes.length ch, .slice am masked.length cm, .int .u32 (sum : Int)] 27) = w2 := ⟨_, rfl⟩
        have k2 : Below w1.heap.size w1 w2 := by rw [← hw2]; exact balloc1 w1 _
        have hr2 := hr1.kept k2
        have hb2 := bnext hb1 k2
        have HA2 := HA1.kept1 k2
        have HW2 := Lib.hid hw2
        have EE := Lib.hid (E2.out _ _ w2 hr2)
        clear c0 c1 c2 c3 c4 c5 HA hr0 hb0 hw0 k1 E hw2 HA1 hr1 hb1 k2 hr2 E2
        go_wp2_with fail
        try rw [HW2.out]
        refine EE.out.mono ?_; rintro e w3 ⟨rfl, k3⟩
        have HA3 := HA2.kept1 k3
        have hb3 := bnext hb2 k3
        clear x0 x1 x2 x3 x4 x5 HA2 hb2 k3 EE HW2
        obtain ⟨x0, x1, x2, x3, x4, x5⟩ := rec_cells HA3
        go_wp2_with fail
        refine (GI.out _).mono ?_; rintro e w4 ⟨rfl, rfl⟩
        go_wp2_with fail
        refine (GS.out _).mono ?_; rintro e w4 ⟨rfl, rfl⟩
        have k0 := fun p : BelowP w3 => (rec_cells (HA3.kept1 p.h)).2.1
        go_wp2
        refine wp_region_quiet_below mixed (by kernel_rfl) ?_
        repeat (go_big_quiet_step (first | (go_at_call 13; refine calls_below (AL.out _))))
        refine wpQuiet_nil ?_
        intro w0q hw'
        obtain ⟨⟨wq, bq⟩, hw''⟩ := hw'
        have hw2 : wq = w0q := hw''.symm
        clear hw''
        subst hw2
        have hb5 := bnext hb3 bq
        clear hb3 bq k0
        go_wp2
        go_ret
        exact ⟨by simp, hb5⟩
      · have E := Lib.hid (enc_no r hok f _ _ w0 hr0)
        have E2 := fun vh2 vm2 w' (h2 : RecIn r vh2 vm2 w') => enc_no { r with seq := q } (fun k => hok k) (seq_fits hq f) vh2 vm2 w' h2
        obtain ⟨kind, seq, pos, homes, masked, sum⟩ := r
        dsimp only at *
        have E2 := Lib.hid E2
        obtain ⟨c0, c1, c2, c3, c4, c5⟩ := rec_cells HA
        clear hok hr f hq
        go_enter Try.func8, Try.ntmps8
        go_wp2_with fail
        refine E.out.mono ?_; rintro e w1 ⟨rfl, k1⟩
        have HA1 := HA.kept1 k1
        have hr1 := hr0.kept k1
        have hb1 := bnext hb0 k1
        have hs1 := k1.size
        obtain ⟨x0, x1, x2, x3, x4, x5⟩ := rec_cells HA1
        obtain ⟨w2, hw2⟩ : ∃ w2, w1.alloc (.cells #[.int .i64 kind, .int .u64 (q : Int), .int .i64 pos, .slice ah homes.length ch, .slice am masked.length cm, .int .u32 (sum : Int)] 27) = w2 := ⟨_, rfl⟩
        have k2 : Below w1.heap.size w1 w2 := by rw [← hw2]; exact balloc1 w1 _
        have hr2 := hr1.kept k2
        have hb2 := bnext hb1 k2
        have HW2 := Lib.hid hw2
        have EE := Lib.hid (E2.out _ _ w2 hr2)
        clear c0 c1 c2 c3 c4 c5 HA hr0 hb0 hw0 k1 E hw2 HA1 hr1 hb1 k2 hr2 E2
        go_wp2_with fail
        try rw [HW2.out]
        refine EE.out.mono ?_; rintro e w3 ⟨rfl, k3⟩
        have hb3 := bnext hb2 k3
        clear x0 x1 x2 x3 x4 x5 hb2 k3 EE HW2
        go_wp2_with fail
        refine (AL.out _).mono ?_; rintro e w4 ⟨rfl, k4⟩
        have hb4 := bnext hb3 k4
        clear hb3 k4
        go_wp2
        go_ret
        exact ⟨rfl, hb4⟩
    · obtain ⟨kind, seq, pos, homes, masked, sum⟩ := r
      dsimp only at l1 l2
      clear hr f
      go_enter Try.func8, Try.ntmps8
      go_wp2
      go_ret
      exact ⟨rfl, hb0⟩
  · obtain ⟨kind, seq, pos, homes, masked, sum⟩ := r
    dsimp only at l1
    clear hr f
    go_enter Try.func8, Try.ntmps8
    go_wp2
    go_ret
    exact ⟨rfl, hb0⟩
end Go.Proofs.Ythkmcfomnkcljaa
