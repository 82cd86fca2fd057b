/- The chapter's examples. -/
import Derived.Test.YtfgjogaoogiddaaKDec
import Derived.Test.YtfgjogaoogiddaaKMask
import Derived.Test.YtfgjogaoogiddaaKRef
namespace Go.Proofs.Ytfgjogaoogiddaa
set_option linter.unusedVariables false
open Go.RowKit

theorem ext_list (s : ByteArray) (a b : Nat) : (s.extract a b).toList = (s.data.toList.drop a).take (b - a) := by
  rw [Lib.extract_eq, ByteArray.toList_eq]
theorem text_same {a b : ByteArray} (h : a.data.toList = b.data.toList) : a = b := by cases a; cases b; simp at h; rw [h]
/-- what is masked is unmasked to what it was -/
theorem mask_list (s : ByteArray) : (maskS s).data.toList = [0, 0, 0, 0] ++ s.data.toList.drop 4 := by
  unfold maskS
  rw [Lib.extract_eq, ByteArray.mk_append_mk]
  have e : (s.data.toList.drop 4).take (s.size - 4) = s.data.toList.drop 4 := by
    apply List.take_of_length_le
    have : s.data.toList.length = s.size := rfl
    rw [List.length_drop, this]; exact Nat.le_refl _
  rw [e]
theorem unmask_list (s : ByteArray) : (unmaskS s).data.toList = [71, 76, 74, 119] ++ s.data.toList.drop 4 := by
  unfold unmaskS
  rw [Lib.extract_eq, ByteArray.mk_append_mk]
  have e : (s.data.toList.drop 4).take (s.size - 4) = s.data.toList.drop 4 := by
    apply List.take_of_length_le
    have : s.data.toList.length = s.size := rfl
    rw [List.length_drop, this]; exact Nat.le_refl _
  rw [e]
theorem size_list (s : ByteArray) : s.data.toList.length = s.size := rfl
theorem begins_list {s : ByteArray} (h : Begins s) : s.data.toList = [71, 76, 74, 119] ++ s.data.toList.drop 4 := by
  have h1 : (s.extract 0 4).toList = [71, 76, 74, 119] := by have := h.2; unfold begB at this; exact beq_iff_eq.1 this
  rw [ext_list] at h1
  have h2 : (s.data.toList.drop 0).take (4 - 0) = s.data.toList.take 4 := rfl
  rw [h2] at h1
  rw [← h1, List.take_append_drop]
theorem begins_of {s : ByteArray} {l : List UInt8} (h : s.data.toList = [71, 76, 74, 119] ++ l) : Begins s := by
  refine ⟨?_, ?_⟩
  · rw [← size_list, h]; simp
  · unfold begB; rw [ext_list, h]; rfl
theorem maskS_size {s : ByteArray} (h : 4 ≤ s.size) : (maskS s).size = s.size := by
  rw [← size_list, mask_list, List.length_append, List.length_drop, size_list]; simp; omega
theorem mask_back {s : ByteArray} (h : Begins s) : unmaskV (maskS s) = s := by
  unfold unmaskV
  rw [if_pos (by rw [maskS_size h.1]; exact h.1)]
  apply text_same
  rw [unmask_list, mask_list]
  exact (begins_list h).symm
theorem mask_off (s : ByteArray) : ¬ Begins (maskS s) := by
  intro h
  have := begins_list h
  rw [mask_list] at this
  simp at this
theorem blk_begins (r : Rec) : Begins (blk r) := begins_of (l := leB 1 r.kind.toNat ++ (leB 8 r.seq ++ (fieldsB r ++ List.replicate (128 - (bodyB r).length) 0))) (blk_list r)
theorem isBlk_begins {s : ByteArray} (h : IsBlk s) : Begins s := by rw [← h.2.2]; exact blk_begins _

def kfillF (i : Nat) : Nat → Value := fun j => .int .u8 0
theorem kz_text (w : World) (g n cap : Nat) (h : CellsAt g n (fun _ => .int .u8 0) w) :
    (convert 52 9 (.slice (some ⟨g, 0, none⟩) n cap)).run Try.prog w = .ok (.string (bs (zeroL n))) w := by
  have h := run_convert_bytes_back (P := Try.prog) w 52 9 5 ⟨g, 0, none⟩ cap (zeroL n) Try.underlying52 Try.underlying5 Try.underlying9 fun j hj => by
    have hj : j < n := by rw [zeroL_length] at hj; exact hj
    rw [add_at, Nat.zero_add, (h.2 j hj).1]
    have e : (zeroL n)[j]'(by rw [zeroL_length]; exact hj) = 0 := by unfold zeroL; exact List.getElem_replicate _
    rw [e]; rfl
  rw [zeroL_length] at h
  exact h
set_option maxRecDepth 100000 in
set_option maxHeartbeats 1000000 in
theorem kblock_any (w : World) :
    Calls Try.prog 29 #[.int .u8 0] w fun e w' => e = .returned (.string (bs (zeroL 128))) ∧ Below w.heap.size w w' := by
  have hm : (Instr.makeSlice 52 (.int .i64 128) (.int .i64 128)).run Try.prog w = .ok (.slice (some ⟨w.heap.size, 0, none⟩) 128 128) (w.alloc (.cells (madeCells #[.int .u8 0] 128) 5)) := kz_made 128 (by omega) w
  have hc : CellsAt w.heap.size 128 (fun _ => .int .u8 0) (w.alloc (.cells (madeCells #[.int .u8 0] 128) 5)) := CellsAt.alloc_new _ _ _ _ _ fun j hj => kz_cell _ _ _ hj
  have hb0 : Below w.heap.size w (w.alloc (.cells (madeCells #[.int .u8 0] 128) 5)) := balloc1 _ _
  generalize (w.alloc (.cells (madeCells #[.int .u8 0] 128) 5)) = w1 at *
  obtain ⟨T, hT⟩ : ∃ T, bs (zeroL 128) = T := ⟨_, rfl⟩
  have HT := Lib.hid hT
  rw [hT]
  clear hT
  go_enter Try.func29, Try.ntmps29
  go_wp2
  go_loopw [4] (fun q wr => ∃ i : Nat, q = .int .i64 i ∧ i ≤ 128 ∧ CellsAt w.heap.size 128 (fun _ => .int .u8 0) wr ∧ Below w.heap.size w wr) (fun q _ => 128 - (intOf q).toNat)
  case atStart => exact ⟨0, rfl, Nat.zero_le _, hc, hb0⟩
  case round =>
    clear hc hb0
    obtain ⟨i, rfl, hi, hc, hbr⟩ := hrel
    by_cases hlt : i < 128
    · obtain ⟨q1, q2⟩ := hc.2 i hlt
      have HC : Hid (CellsAt w.heap.size 128 (fun _ => .int .u8 0) (wr.setCell ⟨w.heap.size, i, none⟩ (.int .u8 0))) := Lib.hid ((hc.set hlt (.int .u8 0)).congr fun j hj => by
        by_cases e : j = i
        · subst e; rw [upd_same]
        · rw [upd_other _ e])
      clear hc
      go_wp2
      exact ⟨⟨i + 1, by go_num, by omega, HC.out, hbr.setCell (Nat.le_refl _) _⟩, by simp [intOf]; omega⟩
    · obtain rfl : i = 128 := by omega
      have hr := kz_text wr w.heap.size 128 128 hc
      rw [HT.out] at hr
      clear hc hm
      go_wp2
      go_ret
      exact ⟨rfl, hbr⟩

def recX : Rec := ⟨4, 258, 0, [], [], 1⟩
def recY : Rec := ⟨1, 0, 511, [], [], 0⟩
theorem nil_in (r : Rec) (h1 : r.homes = []) (h2 : r.masked = []) (w : World) : RecIn r (.slice none 0 0) (.slice none 0 0) w := by
  unfold RecIn; rw [h1, h2]; exact ⟨RowIn.nil 1 w, RowIn.nil 1 w⟩
theorem fitX : Fits recX := ⟨by decide, by decide, by decide, (fun _ hx => nomatch hx), by decide⟩
theorem fitY : Fits recY := ⟨by decide, by decide, by decide, (fun _ hx => nomatch hx), by decide⟩
theorem okX : RecOk recX := by decide
theorem noY : ¬ RecOk recY := by decide
theorem zeros_no : ¬ IsBlk (bs (zeroL 128)) := by
  intro h
  have h2 := isBlk_begins h
  have := begins_list h2
  rw [bs_list] at this
  have h3 : zeroL 128 = 0 :: zeroL 127 := rfl
  rw [h3] at this
  simp at this
set_option maxRecDepth 100000 in
set_option maxHeartbeats 4000000 in
theorem alive_any (w : World) :
    Calls Try.prog 13 #[] w fun e w' => e = .returned (.bool true) ∧ Below w.heap.size w w' := by
  have gh : Try.prog.stoodInHeld 27 = false := by kernel_rfl
  obtain ⟨S, E1, D1, hsz, h18, M1, h4, U1⟩ : ∃ S : ByteArray,
      Hid (∀ w, Calls Try.prog 10 #[.agg #[.int .i64 4, .int .u64 258, .int .i64 0, .slice none 0 0, .slice none 0 0, .int .u32 1]] w fun e w' => e = okRet S ∧ Below w.heap.size w w') ∧
      Hid (∀ w, Calls Try.prog 14 #[.string S] w fun e w' => ∃ ah nh ch am nm cm, e = .returned (.tuple #[.agg #[.int .i64 4, .int .u64 258, .int .i64 0, .slice ah nh ch, .slice am nm cm, .int .u32 1], .int .i64 0]) ∧ Below w.heap.size w w') ∧
      S.size = 128 ∧ ((S.extract 0 18).toList == [71, 76, 74, 119, 4, 2, 1, 0, 0, 0, 0, 0, 0, 1, 0, 0, 0, 0]) = true ∧
      Hid (∀ w, Calls Try.prog 16 #[.string S] w fun e w' => e = .returned (.tuple #[.string (maskS S), .bool true]) ∧ w = w') ∧
      (((maskS S).extract 0 4).toList == [0, 0, 0, 0]) = true ∧
      Hid (∀ w, Calls Try.prog 18 #[.string (maskS S)] w fun e w' => e = .returned (.string S) ∧ w = w') := by
    have hb := blk_begins recX
    have hs : (blk recX).size = 128 := blk_size okX
    have hm : (blk recX).size ≤ maxLen := by rw [hs]; unfold maxLen; omega
    refine ⟨blk recX, Lib.hid fun w => enc_yes recX okX fitX _ _ w (nil_in recX rfl rfl w), Lib.hid fun w => ?_, hs, ?_, Lib.hid fun w => mask_yes _ hm hb w, ?_, Lib.hid fun w => ?_⟩
    · refine (dec_yes _ hm (isBlk_of okX fitX).1 w).mono ?_
      rintro e w' ⟨vh, vm, rfl, ho, b⟩
      rw [(isBlk_of okX fitX).2] at ho
      obtain ⟨ah, ch, rfl, -⟩ := shape_of ho.1
      obtain ⟨am, cm, rfl, -⟩ := shape_of ho.2
      exact ⟨_, _, _, _, _, _, by rw [(isBlk_of okX fitX).2]; rfl, b⟩
    · rw [ext_list, blk_list]; rfl
    · rw [ext_list, mask_list]; rfl
    · have := unmask_any (maskS (blk recX)) (by rw [maskS_size hb.1]; exact hm) w
      rwa [mask_back hb] at this
  have hms : (maskS S).size = 128 := by rw [maskS_size (by omega), hsz]
  generalize maskS S = T at *
  have E2 : Hid (∀ w, Calls Try.prog 10 #[.agg #[.int .i64 1, .int .u64 0, .int .i64 511, .slice none 0 0, .slice none 0 0, .int .u32 0]] w fun e w' => e = badRet ∧ Below w.heap.size w w') := Lib.hid fun w => enc_no recY noY fitY _ _ w (nil_in recY rfl rfl w)
  have BK := Lib.hid kblock_any
  have D2 := Lib.hid (fun w => dec_no (bs (zeroL 128)) (by rw [bs_size, zeroL_length]; unfold maxLen; omega) zeros_no w)
  generalize bs (zeroL 128) = Z at *
  go_enter Try.func13, Try.ntmps13
  go_wp2_with fail
  refine (E1.out _).mono ?_; rintro e w1 ⟨rfl, b1⟩
  go_wp2_with fail
  refine (D1.out _).mono ?_; rintro e w2 ⟨ah, nh, ch, am, nm, cm, rfl, b2⟩
  have b12 := bnext b1 b2
  obtain ⟨w3, hw3⟩ : ∃ w3, w2.alloc (.cells #[.int .i64 4, .int .u64 258, .int .i64 0, .slice ah nh ch, .slice am nm cm, .int .u32 1] 27) = w3 := ⟨_, rfl⟩
  have b3 : Below w.heap.size w w3 := by rw [← hw3]; exact balloc b12 _
  have hR : RecAt w2.heap.size 4 258 0 (.slice ah nh ch) (.slice am nm cm) 1 w3 := by rw [← hw3]; exact Blk.new _ _ w2
  have HW3 := Lib.hid hw3
  clear hw3 b1 b2 b12
  go_wp2_with fail
  rw [HW3.out]
  refine (E2.out _).mono ?_; rintro e w4 ⟨rfl, b4⟩
  have hR4 := hR.kept1 b4
  have hb4 := bnext b3 b4
  clear hR b3 b4 HW3
  go_wp2_with fail
  refine (BK.out _).mono ?_; rintro e w5 ⟨rfl, b5⟩
  have hR5 := hR4.kept1 b5
  have hb5 := bnext hb4 b5
  clear hR4 hb4 b5
  go_wp2_with fail
  refine (D2.out _).mono ?_; rintro e w6 ⟨rfl, b6⟩
  have hR6 := hR5.kept1 b6
  have hb6 := bnext hb5 b6
  clear hR5 hb5 b6
  obtain ⟨w7, hw7⟩ : ∃ w7, w6.alloc (.cells #[.int .i64 0, .int .u64 0, .int .i64 0, .slice none 0 0, .slice none 0 0, .int .u32 0] 27) = w7 := ⟨_, rfl⟩
  have hR7 := hR6.kept1 (show Below w6.heap.size w6 w7 by rw [← hw7]; exact balloc1 w6 _)
  have hb7 : Below w.heap.size w w7 := by rw [← hw7]; exact balloc hb6 _
  have HW7 := Lib.hid hw7
  clear hw7 hR6 hb6
  go_wp2_with fail
  rw [HW7.out]
  refine (M1.out _).mono ?_; rintro e w8 ⟨rfl, rfl⟩
  obtain ⟨x0, x1, x2, x3, x4, x5⟩ := rec_cells hR7
  go_wp2_with fail
  refine (U1.out _).mono ?_; rintro e w8 ⟨rfl, rfl⟩
  go_wp2
  go_ret
  exact ⟨rfl, hb7⟩
end Go.Proofs.Ytfgjogaoogiddaa
