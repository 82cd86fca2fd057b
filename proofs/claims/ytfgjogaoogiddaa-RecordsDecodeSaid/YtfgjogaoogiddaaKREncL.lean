/- The same, of a record with homes. -/
import Derived.Test.YtfgjogaoogiddaaKREnc
namespace Go.Proofs.Ytfgjogaoogiddaa
set_option linter.unusedVariables false
open Go.RowKit


set_option maxHeartbeats 2000000 in
theorem renc_l (r : Rec) (h : RecOk r) (hk2 : r.kind = 2 ∨ r.kind = 3) (f : Fits r) (vh vm : Value) (w : World) (hr : RecIn r vh vm w) :
    Calls Try.prog 11 #[recV r vh vm] w fun e w' => e = okRet (blk r) ∧ Below w.heap.size w w' := by
  have hfl := list_split hk2
  have hho : (∀ x ∈ r.homes, 0 ≤ x ∧ x < 4096) ∧ 1 ≤ r.homes.length ∧ r.homes.length ≤ 28 ∧ r.masked.length ≤ 28 := by
    rcases h with h | h | h | h
    · rcases hk2 with k | k <;> rw [h.1] at k <;> omega
    · have := h.2.1.1; have := h.2.1.2.1; have := h.2.2.1
      exact ⟨fun x hx => by obtain ⟨i, hi, rfl⟩ := List.getElem_of_mem hx; exact ok_bounds h.2.1 i hi, by omega, by omega, by omega⟩
    · have := h.2.1.1; have := h.2.1.2.1; have := h.2.2.1
      exact ⟨fun x hx => by obtain ⟨i, hi, rfl⟩ := List.getElem_of_mem hx; exact ok_bounds h.2.1 i hi, by omega, by omega, by omega⟩
    · rcases hk2 with k | k <;> rw [h.1] at k <;> omega
  have gh : Try.prog.stoodInHeld 27 = false := by kernel_rfl
  have mixed : Try.prog.follows .mixedOrders = true := by kernel_rfl
  have hb0 := balloc1 w (.cells (recC r vh vm) 27)
  have hB0 : Blk w.heap.size (recC r vh vm) 27 _ := Blk.new (recC r vh vm) 27 w
  have hr0 := hr.kept hb0
  have V := may_any r f vh vm _ hr0
  rw [decide_eq_true h] at V
  have V := Lib.hid V
  have hk := ok_kind h
  have hq := f.seq
  have hsm := f.sum
  have hbl : blk r = bs (bodyB r ++ List.replicate (128 - (bodyB r).length) 0) := rfl
  have hbd : bodyB r = magicB ++ (leB 1 r.kind.toNat ++ (leB 8 r.seq ++ fieldsB r)) := by unfold bodyB headB; simp
  have hln := body_length h
  rw [hbl]
  have HBD := Lib.hid hbd
  clear hbl hbd
  generalize bodyB r = body at *
  obtain ⟨w0, hw0⟩ : ∃ w0, w.alloc (.cells (recC r vh vm) 27) = w0 := ⟨_, rfl⟩
  rw [hw0] at hb0 hB0 hr0 V
  obtain ⟨ah, ch, rfl, a1, a2, a3, -⟩ := hr.1.shape
  obtain ⟨am, cm, rfl, b1, b2, b3, -⟩ := hr.2.shape
  have hs0 : w.heap.size < w0.heap.size := by rw [← hw0, size_alloc]; omega
  rw [hfl] at HBD
  obtain ⟨kind, seq, pos, l, m, sum⟩ := r
  dsimp only at *
  obtain ⟨kn, rfl⟩ := Int.eq_ofNat_of_zero_le (show 0 ≤ kind by omega)
  have hkn : kn = 2 ∨ kn = 3 := by omega
  have hk4 : kn ≤ 4 := by omega
  rw [Int.toNat_natCast] at HBD
  have d1 : ((kn : Int) == 1) = false := by rw [beq_eq_false_iff_ne]; omega
  have d4 : ((kn : Int) == 4) = false := by rw [beq_eq_false_iff_ne]; omega
  obtain ⟨hl, l1, l2, l3⟩ := hho
  have d5 : decide (0 < l.length) = true := decide_eq_true (by omega)
  have N1 : Hid (∀ w, Calls Try.prog 27 #[.string ⟨#[71, 76, 74, 119]⟩, .int .i64 1, .int .u64 (kn : Int)] w fun e w' => e = .returned (.string (bs (magicB ++ leB 1 kn))) ∧ Below w.heap.size w w') := Lib.hid (fun w => rput_at magicB (by decide) 1 kn (by omega) (by omega) w)
  have N8 : Hid (∀ w, Calls Try.prog 27 #[.string (bs (magicB ++ leB 1 kn)), .int .i64 8, .int .u64 (seq : Int)] w fun e w' => e = .returned (.string (bs (magicB ++ (leB 1 kn ++ leB 8 seq)))) ∧ Below w.heap.size w w') := Lib.hid (fun w => by
    have := rput_at (magicB ++ leB 1 kn) (by rw [List.length_append, leB_length]; decide) 8 seq (by omega) (by omega) w
    rw [List.append_assoc] at this; exact this)
  have t8 : (magicB ++ (leB 1 kn ++ leB 8 seq)).length = 13 := by rw [List.length_append, List.length_append, leB_length, leB_length]; rfl
  rw [show magicB ++ (leB 1 kn ++ (leB 8 seq ++ (leB 1 l.length ++ (homesB l ++ marksB m)))) = magicB ++ (leB 1 kn ++ leB 8 seq) ++ leB 1 l.length ++ homesB l ++ marksB m by simp] at HBD
  generalize magicB ++ (leB 1 kn ++ leB 8 seq) = T8 at *
  generalize magicB ++ leB 1 kn = T1 at *
  have NC : Hid (∀ w, Calls Try.prog 27 #[.string (bs T8), .int .i64 1, .int .u64 (l.length : Int)] w fun e w' => e = .returned (.string (bs (T8 ++ leB 1 l.length))) ∧ Below w.heap.size w w') := Lib.hid (fun w => rput_at T8 (by omega) 1 l.length (by omega) (by omega) w)
  have t9 : (T8 ++ leB 1 l.length).length = 14 := by rw [List.length_append, leB_length]; omega
  generalize T8 ++ leB 1 l.length = T9 at *
  have NH : Hid (∀ (k : Nat) (hk : k < l.length) (n : Nat) (hn : n < 4096) w, Calls Try.prog 27 #[.string (bs (T9 ++ homesB (l.take k))), .int .i64 2, .int .u64 (n : Int)] w fun e w' => e = .returned (.string (bs (T9 ++ homesB (l.take k) ++ leB 2 n))) ∧ Below w.heap.size w w') := Lib.hid (fun k hk n hn w => rput_at (T9 ++ homesB (l.take k)) (by rw [List.length_append, homesB_length, List.length_take]; omega) 2 n (by omega) (by omega) w)
  have A3 := Lib.hid (row_cells a3)
  have B3 := Lib.hid (row_cells b3)
  have HL := Lib.hid hl
  have hA : ∀ (w' : World), Below w.heap.size w w' → True := fun _ _ => trivial
  have hw0 : w.alloc (.cells #[.int .i64 (kn : Int), .int .u64 (seq : Int), .int .i64 pos, .slice ah l.length ch, .slice am m.length cm, .int .u32 (sum : Int)] 27) = w0 := hw0
  clear h f hr hk hfl a3 b3 hl hk2 hA hkn
  obtain ⟨c0, c1, c2, c3, c4, c5⟩ := rec_cells hB0
  go_enter Try.func11, Try.ntmps11
  go_wp2_with fail
  refine V.out.mono ?_; rintro e w1 ⟨rfl, hb⟩
  have hB1 := hB0.kept1 hb
  have hbb := bnext hb0 hb
  have kb := fun p : BelowP w1 => rec_cells (hB1.kept1 p.h)
  have k0 := fun p => (kb p).1
  have k1 := fun p => (kb p).2.1
  have k2 := fun p => (kb p).2.2.1
  have k3 := fun p => (kb p).2.2.2.1
  have k4 := fun p => (kb p).2.2.2.2.1
  have k5 := fun p => (kb p).2.2.2.2.2
  clear V kb hB0 hb0 hw0 hb hr0 hs0 c0 c1 c2 c3 c4 c5
  go_wp2
  refine wp_region_quiet_below mixed (by kernel_rfl) ?_
  repeat (go_big_quiet_step (first | (go_at_call_of 27 seq; refine calls_below (N8.out _)) | (go_at_call 27; refine calls_below (N1.out _))))
  refine wpQuiet_nil ?_
  intro w0q hw'
  obtain ⟨⟨wq, bq⟩, hw''⟩ := hw'
  have hw2 : wq = w0q := hw''.symm
  clear hw''
  subst hw2
  have hB2 := hB1.kept1 bq
  have hb2 := bnext hbb bq
  have hs2 := bq.size
  have hs1 := hB1.lt
  clear k0 k1 k2 k3 k4 k5 bq hbb hB1 N1 N8
  obtain ⟨x0, x1, x2, x3, x4, x5⟩ := rec_cells hB2
  go_wp2_with fail
  refine (NC.out _).mono ?_; rintro e w3 ⟨rfl, hb3⟩
  have hB3 : RecAt w.heap.size kn seq pos (.slice ah l.length ch) (.slice am m.length cm) sum w3 := hB2.kept1 hb3
  have hbb3 := bnext hb2 hb3
  clear x0 x1 x2 x3 x4 x5 hb2 hb3 hB2 NC hs2 hs1
  go_wp2
  go_loopw [4, 5] (fun s i wr => ∃ k : Nat, s = .string (bs (T9 ++ homesB (l.take k))) ∧ i = .int .i64 k ∧ k ≤ l.length ∧ RecAt w.heap.size kn seq pos (.slice ah l.length ch) (.slice am m.length cm) sum wr ∧ Below w.heap.size w wr) (fun _ i _ => l.length - (intOf i).toNat)
  case atStart => exact ⟨0, by rw [List.take_zero]; simp [homesB], rfl, Nat.zero_le _, hB3, hbb3⟩
  case round =>
    clear hB3 hbb3
    obtain ⟨k, rfl, rfl, hk, hB, hb⟩ := hrel
    obtain ⟨x0, x1, x2, x3, x4, x5⟩ := rec_cells hB
    by_cases hlt : k < l.length
    · obtain ⟨g, o, rfl, hg, hc⟩ := A3.out (by omega)
      have q1 := (hb.cell (p := ⟨g, o + k, none⟩) hg).trans (hc k hlt)
      obtain ⟨hx1, hx2⟩ := HL.out _ (List.getElem_mem hlt)
      have HS := Lib.hid (homesB_snoc l k hlt)
      clear hc
      generalize l[k] = x at *
      obtain ⟨n, rfl⟩ := Int.eq_ofNat_of_zero_le hx1
      go_wp2_with fail
      refine (NH.out k hlt n (by omega) _).mono ?_; rintro e w4 ⟨rfl, hb4⟩
      have hB4 := hB.kept1 hb4
      have hbb4 := bnext hb hb4
      clear hb4 hB x0 x1 x2 x3 x4 x5
      go_wp2
      exact ⟨⟨k + 1, by rw [HS.out, Int.toNat_natCast]; try simp, by go_num, by omega, hB4, hbb4⟩, by simp [intOf]; omega⟩
    · obtain rfl : k = l.length := by omega
      rw [List.take_length]
      have t10 : (T9 ++ homesB l).length = 14 + 2 * l.length := by rw [List.length_append, homesB_length]; omega
      generalize T9 ++ homesB l = T10 at *
      go_wp2
      go_loopw [4, 6] (fun s i wr => ∃ k : Nat, s = .string (bs (T10 ++ marksB (m.take k))) ∧ i = .int .i64 k ∧ k ≤ m.length ∧ RecAt w.heap.size kn seq pos (.slice ah l.length ch) (.slice am m.length cm) sum wr ∧ Below w.heap.size w wr) (fun _ i _ => m.length - (intOf i).toNat)
      case atStart => exact ⟨0, by rw [List.take_zero]; simp [marksB], rfl, Nat.zero_le _, hB, hb⟩
      case round =>
        clear x0 x1 x2 x3 x4 x5 hB hb
        obtain ⟨k, rfl, rfl, hk, hB, hb⟩ := hrel
        obtain ⟨x0, x1, x2, x3, x4, x5⟩ := rec_cells hB
        by_cases hlt : k < m.length
        · obtain ⟨g, o, rfl, hg, hc⟩ := B3.out (by omega)
          have q1 := (hb.cell (p := ⟨g, o + k, none⟩) hg).trans (hc k hlt)
          have HS := Lib.hid (marksB_snoc m k hlt)
          have z2 : (bs (T10 ++ marksB (m.take k))).size = 14 + 2 * l.length + k := by rw [bs_size, List.length_append, marksB_length, List.length_take]; omega
          clear hc
          generalize m[k] = x at *
          cases x
          · have HT := Lib.hid (bs_append (T10 ++ marksB (m.take k)) [0])
            go_wp2
            exact ⟨⟨k + 1, by rw [HS.out, ← List.append_assoc]; exact congrArg Value.string HT.out, by go_num, by omega, hB, hb⟩, by simp [intOf]; omega⟩
          · have HT := Lib.hid (bs_append (T10 ++ marksB (m.take k)) [1])
            go_wp2
            exact ⟨⟨k + 1, by rw [HS.out, ← List.append_assoc]; exact congrArg Value.string HT.out, by go_num, by omega, hB, hb⟩, by simp [intOf]; omega⟩
        · obtain rfl : k = m.length := by omega
          rw [List.take_length, ← HBD.out]
          have s6 : (bs body).size = body.length := bs_size body
          have M := Lib.hid (fun w => kz_made (128 - body.length) (by omega) w)
          have MB := Lib.hid (fun w => kz_back w (128 - body.length))
          have e128 : ((128 - body.length : Nat) : Int) = 128 - (body.length : Int) := by omega
          have s7 : (bs (zeroL (128 - body.length))).size = 128 - body.length := by rw [bs_size, zeroL_length]
          have HZ := Lib.hid (zeros_end body)
          have m1 := M.out wr
          have m2 := MB.out wr
          rw [e128] at m1
          have hb4 := balloc hb (.cells (madeCells #[.int .u8 0] (128 - body.length)) 5)
          go_wp2
          go_ret2
          exact ⟨congrArg okRet HZ.out, hb4⟩
theorem renc_yes (r : Rec) (h : RecOk r) (f : Fits r) (vh vm : Value) (w : World) (hr : RecIn r vh vm w) :
    Calls Try.prog 11 #[recV r vh vm] w fun e w' => e = okRet (blk r) ∧ Below w.heap.size w w' := by
  rcases id h with k | k | k | k
  · exact renc_1 r k f vh vm w hr
  · exact renc_l r h (.inl k.1) f vh vm w hr
  · exact renc_l r h (.inr k.1) f vh vm w hr
  · exact renc_4 r k f vh vm w hr
end Go.Proofs.Ytfgjogaoogiddaa
