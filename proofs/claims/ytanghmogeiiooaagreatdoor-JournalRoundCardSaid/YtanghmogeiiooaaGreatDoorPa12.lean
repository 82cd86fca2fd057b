import Derived.Test.YtanghmogeiiooaaGreatDoorPa11
import Derived.Test.YtanghmogeiiooaaGreatDoorPa10
import Derived.Test.YtanghmogeiiooaaGreatDoorRows
import Derived.Test.YtanghmogeiiooaaGreatDoorPa03
import Derived.WalkKit
import Derived.WalkSpells
import Derived.WalkLawsBesides
import Derived.Lib.Hide
import Derived.Lib.LaidTab
set_option linter.unusedVariables false
set_option linter.unusedSimpArgs false
set_option linter.constructorNameAsVariable false
/- Encode. -/
namespace Go.Proofs.YtanghmogeiiooaaGreatDoor
set_option linter.unusedVariables false
open Go.RowKit

abbrev okRet (s : ByteArray) : Ending := .returned (.tuple #[.string s, .int .i64 0])
abbrev badRet : Ending := .returned (.tuple #[.string ⟨#[]⟩, .int .i64 2])
set_option maxHeartbeats 4000000 in
theorem enc_no (r : Rec) (h : ¬ RecOk r) (f : Fits r) (vh vm : Value) (w : World) (hr : RecIn r vh vm w) :
    Calls Tryz.prog 97 #[recV r vh vm] w fun e w' => e = badRet ∧ Below w.heap.size w w' := by
  have gh : Tryz.prog.stoodInHeld 134 = false := by kernel_rfl
  have hb0 := balloc1 w (.cells (recC r vh vm) 134)
  have V := valid_rec r f vh vm _ (hr.kept hb0)
  rw [decide_eq_false h] at V
  have V := Lib.hid V
  obtain ⟨kind, seq, pos, homes, masked, sum⟩ := r
  clear h f hr
  go_enter Tryz.func97, Tryz.ntmps97
  go_wp2_with fail
  refine V.out.mono ?_; rintro e w1 ⟨rfl, hb⟩
  have hbb := below_boxed hb
  go_wp2
  go_ret2
  exact ⟨rfl, hbb⟩
theorem magic_bs (l : List UInt8) : (⟨#[71, 76, 74, 119]⟩ : ByteArray) ++ bs l = bs (magicB ++ l) := bs_append magicB l
theorem zeros_end (b : List UInt8) : bs b ++ bs (zeroL (128 - b.length)) = bs (b ++ List.replicate (128 - b.length) 0) := by rw [bs_append]; rfl
set_option maxHeartbeats 8000000 in
theorem enc_yes (r : Rec) (h : RecOk r) (f : Fits r) (vh vm : Value) (w : World) (hr : RecIn r vh vm w) :
    Calls Tryz.prog 97 #[recV r vh vm] w fun e w' => e = okRet (blk r) ∧ Below w.heap.size w w' := by
  have gh : Tryz.prog.stoodInHeld 134 = false := by kernel_rfl
  have mixed : Tryz.prog.follows .mixedOrders = true := by kernel_rfl
  have hb0 := balloc1 w (.cells (recC r vh vm) 134)
  have hB0 : Blk w.heap.size (recC r vh vm) 134 _ := Blk.new (recC r vh vm) 134 w
  have hr0 := hr.kept hb0
  have V := valid_rec r f vh vm _ hr0
  rw [decide_eq_true h] at V
  have V := Lib.hid V
  have hk := ok_kind h
  have hq := f.seq
  have FI := Lib.hid (fun (w' : World) (hw : RecIn r vh vm w') => fields_any r h f vh vm w' hw)
  have hbl : blk r = bs (bodyB r ++ List.replicate (128 - (bodyB r).length) 0) := rfl
  have hbd : bodyB r = magicB ++ (leB 1 r.kind.toNat ++ (leB 8 r.seq ++ fieldsB r)) := by unfold bodyB headB; simp
  have hln := body_length h
  have HFL : (fieldsB r).length ≤ 73 := fields_length h
  rw [hbl]
  have HBD := Lib.hid hbd
  clear hbl hbd
  generalize bodyB r = body at *
  generalize fieldsB r = fl at *
  obtain ⟨w0, hw0⟩ : ∃ w0, w.alloc (.cells (recC r vh vm) 134) = w0 := ⟨_, rfl⟩
  rw [hw0] at hb0 hB0 hr0 V
  have RI := fun (w' : World) (hw : Below w0.heap.size w0 w') => (show RecIn r vh vm w' from hr0.kept hw)
  obtain ⟨kind, seq, pos, homes, masked, sum⟩ := r
  dsimp only at *
  obtain ⟨kn, rfl⟩ := Int.eq_ofNat_of_zero_le (show 0 ≤ kind by omega)
  rw [Int.toNat_natCast] at HBD
  have N1 : Hid (∀ w, Calls Tryz.prog 117 #[.int .i64 1, .int .u64 (kn : Int)] w fun e w' => e = .returned (.string (bs (leB 1 kn))) ∧ Below w.heap.size w w') := Lib.hid (fun w => number_any 1 kn (by omega) (by omega) w)
  have N8 : Hid (∀ w, Calls Tryz.prog 117 #[.int .i64 8, .int .u64 (seq : Int)] w fun e w' => e = .returned (.string (bs (leB 8 seq))) ∧ Below w.heap.size w w') := Lib.hid (fun w => number_any 8 seq (by omega) (by omega) w)
  have hk4 : kn ≤ 4 := by omega
  have hs0 : w.heap.size < w0.heap.size := by rw [← hw0, size_alloc]; omega
  obtain ⟨c0, c1, c2, c3, c4, c5⟩ := rec_cells hB0
  clear h f hr hr0 hk
  go_enter Tryz.func97, Tryz.ntmps97
  go_wp2_with fail
  refine V.out.mono ?_; rintro e w1 ⟨rfl, hb⟩
  have hB1 := hB0.kept1 hb
  have hbb := bnext hb0 hb
  have kb := fun p : BelowP w1 => rec_cells (hB1.kept1 p.h)
  have k0 := fun p => (kb p).1
  have k1 := fun p => (kb p).2.1
  have k2 := fun p => (kb p).2.2.1
  have k3 := fun p => (kb p).2.2.2.1
  have k4 := fun p => (kb p).2.2.2.2.1
  have k5 := fun p => (kb p).2.2.2.2.2
  have F2 := Lib.hid (fun p : BelowP w1 => FI.out p.to (RI _ (bnext hb p.h)))
  have s1 : (bs (leB 1 kn)).size = 1 := by rw [bs_size, leB_length]
  have s2 : (bs (leB 8 seq)).size = 8 := by rw [bs_size, leB_length]
  have s3 : (bs fl).size = fl.length := bs_size fl
  have s4 : (bs (magicB ++ leB 1 kn)).size = 5 := by rw [bs_size, List.length_append, leB_length]; rfl
  have s5 : (bs (magicB ++ (leB 1 kn ++ leB 8 seq))).size = 13 := by rw [bs_size, List.length_append, List.length_append, leB_length, leB_length]; rfl
  have mg := magic_bs
  have ap := bs_append
  clear V kb FI RI hB0 hb0 hw0 hb c0 c1 c2 c3 c4 c5
  go_wp2
  refine wp_region_quiet_below mixed (by kernel_rfl) ?_
  repeat (go_big_quiet_step (first | (go_at_call_of 117 kn; refine calls_below (N1.out _)) | (go_at_call_of 117 seq; refine calls_below (N8.out _)) | (go_at_call 118; refine calls_below (F2.out _))))
  refine wpQuiet_nil ?_
  intro w0q hw'
  obtain ⟨⟨wq, bq⟩, hw''⟩ := hw'
  have hw2 : wq = w0q := hw''.symm
  clear hw''
  subst hw2
  rw [← HBD.out]
  have hbq := bnext hbb bq
  have s6 : (bs body).size = body.length := bs_size body
  have RP : Hid (∀ w, Calls Tryz.prog 57 #[.string ⟨#[0]⟩, .int .i64 (128 - (body.length : Int))] w fun e w' => e = .returned (.string (bs (zeroL (128 - body.length)))) ∧ Below w.heap.size w w') := Lib.hid fun w => by
    have := repeat_any (128 - body.length) (by omega) w
    rw [show ((128 - body.length : Nat) : Int) = 128 - (body.length : Int) by omega] at this
    exact this
  have s7 : (bs (zeroL (128 - body.length))).size = 128 - body.length := by rw [bs_size, zeroL_length]
  have HZ := Lib.hid (zeros_end body)
  clear k0 k1 k2 k3 k4 k5 mg ap s1 s2 s3 s4 s5 bq hbb
  go_wp2_with fail
  refine (RP.out _).mono ?_; rintro e w3 ⟨rfl, hb3⟩
  have hb4 := bnext hbq hb3
  go_wp2
  go_ret2
  exact ⟨congrArg okRet HZ.out, hb4⟩
end Go.Proofs.YtanghmogeiiooaaGreatDoor

/- encoded, begin, content, behind. -/
namespace Go.Proofs.YtanghmogeiiooaaGreatDoor
set_option linter.unusedVariables false
open Go.RowKit

set_option maxHeartbeats 1000000 in
theorem encoded_any (r : Rec) (h : RecOk r) (f : Fits r) (vh vm : Value) (w : World) (hr : RecIn r vh vm w) :
    Calls Tryz.prog 70 #[recV r vh vm] w fun e w' => e = .returned (.string (blk r)) ∧ Below w.heap.size w w' := by
  have gh : Tryz.prog.stoodInHeld 134 = false := by kernel_rfl
  have hb0 := balloc1 w (.cells (recC r vh vm) 134)
  have E := Lib.hid (enc_yes r h f vh vm _ (hr.kept hb0))
  generalize blk r = S at *
  obtain ⟨kind, seq, pos, homes, masked, sum⟩ := r
  clear h f hr
  go_enter Tryz.func70, Tryz.ntmps70
  go_wp2_with fail
  refine E.out.mono ?_; rintro e w1 ⟨rfl, b1⟩
  go_wp2
  go_ret
  exact ⟨rfl, bnext hb0 b1⟩
abbrev placeV (slot left : Int) (seq : Nat) : Value := .agg #[.int .i64 slot, .int .i64 left, .int .u64 (seq : Int)]
def headR (slot seq : Nat) : Rec := ⟨1, seq, slot, [], [], 0⟩
theorem headR_ok {slot seq : Nat} (h1 : slot ≤ 510) (h2 : seq < 18446744073709551616) : RecOk (headR slot seq) ∧ Fits (headR slot seq) := by
  refine ⟨.inl ?_, ⟨by show I64 1; exact ⟨by decide, by decide⟩, h2, by show I64 (slot : Int); constructor <;> omega, (fun _ hx => nomatch hx), by show (0 : Nat) < _; decide⟩⟩
  unfold Ok1 headR
  simp
  omega
theorem one_chg (w : World) (c : Int × ByteArray) : ChgsIn (.slice (some ⟨w.heap.size, 0, none⟩) 1 1) [c] (w.alloc (.cells (chgC c) 61)) := by
  refine ⟨by simp [chgsL], some ⟨w.heap.size, 0, none⟩, 1, rfl, Nat.le_refl _, by unfold maxLen; omega, fun _ => ⟨w.heap.size, 0, rfl, by rw [size_alloc]; omega, fun k u hk => ?_⟩, fun h => by cases h⟩
  rw [Nat.zero_add]
  have := (Blk.new (chgC c) 61 w).cell k
  rw [this]
  match k, hk with
  | 0, hk => exact hk
  | 1, hk => exact hk
set_option maxRecDepth 100000 in
set_option maxHeartbeats 2000000 in
theorem begin_any (d : Nat) (b l i la ma ml ta tl da : Int) (slot : Nat) (left : Int) (seq : Nat) (hs : slot ≤ 510) (hq : seq < 18446744073709551616) (lo hi : Nat) (w : World) (hhi : hi ≤ w.heap.size) :
    Calls Tryz.prog 41 #[ringV (some ⟨d, 0, none⟩) b l i la ma ml ta tl da, placeV slot left seq] w fun e w' =>
      ∃ ab, e = .returned (.func (.func 64) #[] #[.pointer (some ⟨ab, 0, none⟩)]) ∧ Does d lo hi 64 #[.pointer (some ⟨ab, 0, none⟩)] [.write la (blk (headR slot seq))] w' ∧ Below w.heap.size w w' := by
  obtain ⟨o1, o2⟩ := headR_ok hs hq
  have E : ∀ w, Calls Tryz.prog 70 #[.agg #[.int .i64 1, .int .u64 (seq : Int), .int .i64 (slot : Int), .slice none 0 0, .slice none 0 0, .int .u32 0]] w fun e w' => e = .returned (.string (blk (headR slot seq))) ∧ Below w.heap.size w w' := fun w =>
    encoded_any (headR slot seq) o1 o2 (.slice none 0 0) (.slice none 0 0) w ⟨RowIn.nil 1 w, RowIn.nil 1 w⟩
  have E := Lib.hid E
  generalize blk (headR slot seq) = H at *
  have hb0 := balloc (balloc1 w (.cells (ringC (some ⟨d, 0, none⟩) b l i la ma ml ta tl da) 87)) (.cells #[.int .i64 (slot : Int), .int .i64 left, .int .u64 (seq : Int)] 91)
  have R0 : RingAt w.heap.size (some ⟨d, 0, none⟩) b l i la ma ml ta tl da ((w.alloc (.cells (ringC (some ⟨d, 0, none⟩) b l i la ma ml ta tl da) 87)).alloc (.cells #[.int .i64 (slot : Int), .int .i64 left, .int .u64 (seq : Int)] 91)) := (RingAt.new _ _ _ _ _ _ _ _ _ _ _).kept1 (balloc1 _ _)
  clear o1 o2
  go_enter Tryz.func41, Tryz.ntmps41
  go_wp2_with fail
  refine (E.out _).mono ?_; rintro e w1 ⟨rfl, b1⟩
  have R1 := R0.kept1 b1
  have hb1 := bnext hb0 b1
  obtain ⟨c0, c1, c2, c3, c4, c5, c6, c7, c8, c9⟩ := R1.cells
  have W := Lib.hid (jwrite_any d b l i la ma ml ta tl da [(la, H)] (by simp) _ lo hi _ (by have := hb1.size; rw [size_alloc]; omega) (one_chg w1 (la, H)))
  have hb2 := balloc hb1 (.cells (chgC (la, H)) 61)
  clear R0 hb0 b1 R1 hb1 E
  go_wp2_with fail
  refine W.out.mono ?_; rintro e w2 ⟨rfl, hD, b2⟩
  rw [size_alloc] at hD
  have HD : Hid (Does d lo hi 64 #[.pointer (some ⟨w1.heap.size + 1 + 1, 0, none⟩)] [.write la H] w2) := Lib.hid hD
  clear hD
  go_wp2
  go_ret
  exact ⟨_, rfl, HD.out, bnext hb2 b2⟩
theorem content_any (d : Nat) (b l i la ma ml ta tl da : Int) (x : Int) {S : St} {lo hi : Nat} (w : World) (h : DevAt d lo hi S w) :
    Calls Tryz.prog 90 #[ringV (some ⟨d, 0, none⟩) b l i la ma ml ta tl da, .int .i64 x] w fun e w' => e = .returned (.string (rText S x)) ∧ Below w.heap.size w w' := by
  have hb0 := balloc1 w (.cells (ringC (some ⟨d, 0, none⟩) b l i la ma ml ta tl da) 87)
  have R := Lib.hid (read_any x _ (h.kept1 hb0))
  clear h
  go_enter Tryz.func90, Tryz.ntmps90
  go_wp2_with fail
  refine R.out.mono ?_; rintro e w1 ⟨rfl, rfl⟩
  go_wp2
  go_ret
  exact ⟨rfl, hb0⟩
end Go.Proofs.YtanghmogeiiooaaGreatDoor

/- Numbers of 32 bits, as the program spells them. -/
namespace Go.Proofs.YtanghmogeiiooaaGreatDoor
open Go.RowKit

theorem ret_u32 {a b : Int} (h : a = b) : Ending.returned (.int .u32 a) = .returned (.int .u32 b) := by rw [h]
theorem val_u32 {a b : Int} (h : a = b) : Value.int .u32 a = .int .u32 b := by rw [h]

theorem ofInt32 (a : Nat) (ha : a < 4294967296) : (BitVec.ofInt 32 (a : Int)).toNat = a := by
  rw [BitVec.ofInt_natCast, BitVec.toNat_ofNat]; exact Nat.mod_eq_of_lt (by omega)
theorem wrap32 (a : Nat) (ha : a < 4294967296) : IntKind.u32.wrap (a : Int) = a := by
  simp [IntKind.wrap, IntKind.bits, IntKind.signed]; omega
theorem xor32 (a b : Nat) (ha : a < 4294967296) (hb : b < 4294967296) : bits .xor .u32 (a : Int) (b : Int) = ((a ^^^ b : Nat) : Int) := by
  show IntKind.u32.wrap ((BitVec.ofInt 32 (a : Int) ^^^ BitVec.ofInt 32 (b : Int)).toNat : Int) = _
  rw [BitVec.toNat_xor, ofInt32 a ha, ofInt32 b hb]
  exact wrap32 _ (Nat.xor_lt_two_pow (n := 32) ha hb)
theorem and32 (a b : Nat) (ha : a < 4294967296) (hb : b < 4294967296) : bits .and .u32 (a : Int) (b : Int) = ((a &&& b : Nat) : Int) := by
  show IntKind.u32.wrap ((BitVec.ofInt 32 (a : Int) &&& BitVec.ofInt 32 (b : Int)).toNat : Int) = _
  rw [BitVec.toNat_and, ofInt32 a ha, ofInt32 b hb]
  exact wrap32 _ (Nat.and_lt_two_pow (n := 32) _ hb)
theorem and1_32 (a : Nat) (ha : a < 4294967296) : bits .and .u32 (a : Int) 1 = ((a % 2 : Nat) : Int) := by
  have := and32 a 1 ha (by decide)
  rw [Nat.and_one_is_mod] at this
  exact this
theorem and15_32 (a : Nat) (ha : a < 4294967296) : bits .and .u32 (a : Int) 15 = ((a % 16 : Nat) : Int) := by
  have := and32 a 15 ha (by decide)
  rw [show 15 = 2 ^ 4 - 1 from rfl, Nat.and_two_pow_sub_one_eq_mod] at this
  exact this
theorem bit_test (a : Nat) (ha : a < 4294967296) (d : Bool) (h : decide (a % 2 = 1) = d) : (bits .and .u32 (a : Int) 1 == 1) = d := by
  rw [and1_32 a ha, ← h, Bool.eq_iff_iff]
  simp only [beq_iff_eq, decide_eq_true_eq]; omega
end Go.Proofs.YtanghmogeiiooaaGreatDoor

/- The contracts of sums.More, of the document's step and More, and of the joins. -/
namespace Go.Proofs.YtanghmogeiiooaaGreatDoor
open Go.RowKit

theorem even_test (q : Nat) (d : Bool) (h : decide (q % 2 = 1) = d) : ((q : Int) % 2 == 1) = d := by
  rw [← h, Bool.eq_iff_iff]
  simp only [beq_iff_eq, decide_eq_true_eq]; omega

/-- the table of shalf bytes lies where it lies -/
def Tab (w : World) : Prop := ∀ i < 16, w.cell? ⟨0, i, none⟩ = some (.int .u32 (tab i : Nat))
theorem not32 (r : Nat) (h : r < 4294967296) : bits .xor .u32 IntKind.u32.max (r : Int) = ((4294967295 ^^^ r : Nat) : Int) := xor32 4294967295 r (by decide) h
theorem tab_lt (i : Nat) (h : i < 16) : tab i < 4294967296 := by
  rw [← tab_is i h]; exact shN_lt _ _ (by omega)
theorem take_snoc (s : ByteArray) (k : Nat) (h : k < s.size) : s.data.toList.take (k + 1) = s.data.toList.take k ++ [s[k]] := by
  rw [List.take_succ_eq_append_getElem (by simpa using h)]; rfl
theorem take_all (s : ByteArray) : s.data.toList.take s.size = s.data.toList := List.take_of_length_le (by simp)

set_option maxHeartbeats 400000 in
theorem more_any (r : Nat) (hr : r < 4294967296) (s : ByteArray) (hs : s.size ≤ maxLen) (w : World) (ht : Tab w) :
    Calls Tryz.prog 104 #[.int .u32 r, .string s] w fun e w' => e = .returned (.int .u32 (moreV r s.data.toList : Nat)) ∧ w = w' := by
  unfold maxLen at hs
  have HT := Lib.hid ht
  clear ht
  have hn := not_lt r hr
  have HN := Lib.hid (not32 r hr)
  go_enter Tryz.func104, Tryz.ntmps104
  go_wp2
  go_loop [5, 11] (fun r' i => ∃ k R : Nat, k ≤ s.size ∧ R < 4294967296 ∧ i = .int .i64 k ∧ r' = .int .u32 R ∧ Hid (run (4294967295 ^^^ r) (s.data.toList.take k) = R)) (fun _ i => s.size - (intOf i).toNat)
  case atStart => exact ⟨0, 4294967295 ^^^ r, by omega, hn, rfl, val_u32 HN.out, Lib.hid rfl⟩
  case round =>
    obtain ⟨k, R, hk, hR, rfl, rfl, HR⟩ := hrel
    by_cases hlt : k < s.size
    · have hc := s[k].toNat_lt
      obtain ⟨a, hea⟩ : ∃ a, a = R ^^^ s[k].toNat := ⟨_, rfl⟩
      have hla : a < 4294967296 := by rw [hea]; exact Nat.xor_lt_two_pow (n := 32) hR (by omega)
      obtain ⟨b, heb⟩ : ∃ b, b = shN 4 a := ⟨_, rfl⟩
      have hlb : b < 4294967296 := by rw [heb]; exact shN_lt _ _ hla
      obtain ⟨d, hed⟩ : ∃ d, d = shN 4 b := ⟨_, rfl⟩
      have hld : d < 4294967296 := by rw [hed]; exact shN_lt _ _ hlb
      have f1 : bits .xor .u32 (R : Int) (s[k].toNat : Int) = (a : Int) := by
        rw [hea, ← xor32 R s[k].toNat hR (by omega)]
      have f2 := and15_32 a hla
      have f3 := HT.out (a % 16) (by omega)
      have f4 : bits .xor .u32 ((a : Int) / 16) (tab (a % 16) : Int) = (b : Int) := by
        have := xor32 (a / 16) (tab (a % 16)) (by omega) (tab_lt _ (by omega))
        rw [heb, shalf]; exact this
      have f5 := and15_32 b hlb
      have f6 := HT.out (b % 16) (by omega)
      have f7 : bits .xor .u32 ((b : Int) / 16) (tab (b % 16) : Int) = (d : Int) := by
        have := xor32 (b / 16) (tab (b % 16)) (by omega) (tab_lt _ (by omega))
        rw [hed, shalf]; exact this
      have hend : Hid (run (4294967295 ^^^ r) (s.data.toList.take (k + 1)) = d) := by
        show _ = _
        rw [take_snoc s k hlt, run_snoc, HR.out, hed, heb, ← hea, show 8 = 4 + 4 from rfl, shN_add]
      have hp : a % 16 < 16 := by omega
      have hq : b % 16 < 16 := by omega
      clear hea heb hed
      go_wp2
      exact ⟨⟨k + 1, d, by omega, hld, by go_num, rfl, hend⟩, by simp [intOf]; omega⟩
    · obtain rfl : k = s.size := by omega
      have HM := Lib.hid (not32 R hR)
      go_wp2
      go_ret
      exact ⟨ret_u32 (by rw [HM.out, ← HR.out, take_all]; rfl), rfl⟩

end Go.Proofs.YtanghmogeiiooaaGreatDoor

/- The reader: next; rising. -/
namespace Go.Proofs.YtanghmogeiiooaaGreatDoor
set_option linter.unusedVariables false
open Go.RowKit

theorem tab_zone {lo hi : Nat} {w w' : World} (h : Tab w) (z : Zone lo hi w w') (hlo : 0 < lo) : Tab w' := fun i hi' => by
  have h0 := h i hi'
  have hl := (cell_flat h0).2
  exact (World.cell?_of_block (a := ⟨0, i, none⟩) (z.block 0 hl (.inl hlo))).trans h0
theorem tab_below1 {w w' : World} (h : Tab w) (b : Below w.heap.size w w') : Tab w' := tab_zone h (Zone.of_below b 1 1) (by omega)
/-- a reader: a ring, a place, how many slots were read, the sum -/
abbrev rdC (d : Nat) (b l i la ma ml ta tl da : Int) (slot left : Int) (seq : Nat) (read : Int) (sum : Nat) : Array Value :=
  #[.pointer (some ⟨d, 0, none⟩), .int .i64 b, .int .i64 l, .int .i64 i, .int .i64 la, .int .i64 ma, .int .i64 ml, .int .i64 ta, .int .i64 tl, .int .i64 da, .int .i64 slot, .int .i64 left, .int .u64 (seq : Int), .int .i64 read, .int .u32 (sum : Int)]
abbrev RdAt (g d : Nat) (b l i la ma ml ta tl da : Int) (slot left : Int) (seq : Nat) (read : Int) (sum : Nat) (w : World) : Prop := Blk g (rdC d b l i la ma ml ta tl da slot left seq read sum) 122 w
theorem RdAt.cells {g d : Nat} {b l i la ma ml ta tl da slot left : Int} {seq : Nat} {read : Int} {sum : Nat} {w : World} (h : RdAt g d b l i la ma ml ta tl da slot left seq read sum w) :
    w.cell? ⟨g, 0, none⟩ = some (.pointer (some ⟨d, 0, none⟩)) ∧ w.cell? ⟨g, 1, none⟩ = some (.int .i64 b) ∧ w.cell? ⟨g, 2, none⟩ = some (.int .i64 l) ∧ w.cell? ⟨g, 3, none⟩ = some (.int .i64 i) ∧ w.cell? ⟨g, 4, none⟩ = some (.int .i64 la) ∧
    w.cell? ⟨g, 5, none⟩ = some (.int .i64 ma) ∧ w.cell? ⟨g, 6, none⟩ = some (.int .i64 ml) ∧ w.cell? ⟨g, 7, none⟩ = some (.int .i64 ta) ∧ w.cell? ⟨g, 8, none⟩ = some (.int .i64 tl) ∧ w.cell? ⟨g, 9, none⟩ = some (.int .i64 da) ∧
    w.cell? ⟨g, 10, none⟩ = some (.int .i64 slot) ∧ w.cell? ⟨g, 11, none⟩ = some (.int .i64 left) ∧ w.cell? ⟨g, 12, none⟩ = some (.int .u64 (seq : Int)) ∧ w.cell? ⟨g, 13, none⟩ = some (.int .i64 read) ∧ w.cell? ⟨g, 14, none⟩ = some (.int .u32 (sum : Int)) :=
  ⟨h.cell 0, h.cell 1, h.cell 2, h.cell 3, h.cell 4, h.cell 5, h.cell 6, h.cell 7, h.cell 8, h.cell 9, h.cell 10, h.cell 11, h.cell 12, h.cell 13, h.cell 14⟩
set_option maxRecDepth 100000 in
theorem next_end (g d : Nat) (b l i la ma ml ta tl da : Int) (slot : Int) (left : Nat) (seq sum : Nat) (w : World) (h : RdAt g d b l i la ma ml ta tl da slot left seq left sum w) :
    Calls Tryz.prog 111 #[.pointer (some ⟨g, 0, none⟩)] w fun e w' => e = .returned (.tuple #[.string ⟨#[]⟩, .bool false]) ∧ Below w.heap.size w w' := by
  have mixed : Tryz.prog.follows .mixedOrders = true := by kernel_rfl
  have kb := fun p : BelowP w => RdAt.cells (Blk.kept1 h p.h)
  have k11 := fun p => (kb p).2.2.2.2.2.2.2.2.2.2.2.1
  have k13 := fun p => (kb p).2.2.2.2.2.2.2.2.2.2.2.2.2.1
  have ht : ((left : Int) == (left : Int)) = true := by simp
  clear kb
  go_enter Tryz.func111, Tryz.ntmps111
  go_wp2
  refine wp_region_quiet_below mixed (by kernel_rfl) ?_
  repeat (go_big_quiet_step (fail))
  refine wpQuiet_nil ?_
  intro w0q hw'
  obtain ⟨⟨wq, bq⟩, hw''⟩ := hw'
  have hw2 : wq = w0q := hw''.symm
  clear hw''
  subst hw2
  go_wp2
  go_ret2
  exact ⟨rfl, bq⟩
/-- the text of a slot -/
def slotT (S : St) (la l : Int) (p : Nat) : ByteArray := rText S (la + 1 + (p : Int) % (l - 1))
theorem slotT_size {S : St} (h : S.ok) (la l : Int) (p : Nat) : (slotT S la l p).size ≤ maxLen := by
  unfold slotT rText
  split
  · rename_i hb
    rw [h.now _ (by omega)]; unfold maxLen; omega
  · show (0 : Nat) ≤ _; omega
set_option maxRecDepth 100000 in
set_option maxHeartbeats 4000000 in
theorem next_more (g d lo hi : Nat) (b l i la ma ml ta tl da : Int) (hl : 128 ≤ l ∧ l ≤ 512) (hla : 0 ≤ la ∧ la ≤ 4096) (slot read : Nat) (left : Int) (seq sum : Nat) (hr : (read : Int) ≠ left) (hs : slot + read ≤ 2000) (hsum : sum < 4294967296) {S : St} (w : World)
    (h : RdAt g d b l i la ma ml ta tl da slot left seq read sum w) (hd : DevAt d lo hi S w) (hg : hi ≤ g) (hg0 : 0 < g) (ht : Tab w) :
    Calls Tryz.prog 111 #[.pointer (some ⟨g, 0, none⟩)] w fun e w' =>
      e = .returned (.tuple #[.string (slotT S la l (slot + read)), .bool true]) ∧ RdAt g d b l i la ma ml ta tl da slot left seq ((read : Int) + 1) (moreV sum (slotT S la l (slot + read)).data.toList) w' ∧ Zone g (g + 1) w w' := by
  have mixed : Tryz.prog.follows .mixedOrders = true := by kernel_rfl
  have kb := fun p : BelowP w => RdAt.cells (Blk.kept1 h p.h)
  have k0 := fun p => (kb p).1
  have k1 := fun p => (kb p).2.1
  have k2 := fun p => (kb p).2.2.1
  have k3 := fun p => (kb p).2.2.2.1
  have k4 := fun p => (kb p).2.2.2.2.1
  have k5 := fun p => (kb p).2.2.2.2.2.1
  have k6 := fun p => (kb p).2.2.2.2.2.2.1
  have k7 := fun p => (kb p).2.2.2.2.2.2.2.1
  have k8 := fun p => (kb p).2.2.2.2.2.2.2.2.1
  have k9 := fun p => (kb p).2.2.2.2.2.2.2.2.2.1
  have k10 := fun p => (kb p).2.2.2.2.2.2.2.2.2.2.1
  have k11 := fun p => (kb p).2.2.2.2.2.2.2.2.2.2.2.1
  have k13 := fun p => (kb p).2.2.2.2.2.2.2.2.2.2.2.2.2.1
  have ht0 : ((read : Int) == left) = false := by rw [beq_eq_false_iff_ne]; exact hr
  have hsz := slotT_size hd.ok la l (slot + read)
  have BL : ∀ w, Calls Tryz.prog 75 #[ringV (some ⟨d, 0, none⟩) b l i la ma ml ta tl da, .int .i64 ((slot : Int) + (read : Int))] w fun e w' => e = .returned (.int .i64 (la + 1 + ((slot + read : Nat) : Int) % (l - 1))) ∧ Below w.heap.size w w' := fun w => by
    have := jblock_any (some ⟨d, 0, none⟩) b l i la ma ml ta tl da hl hla (slot + read) (by omega) w
    rwa [Int.natCast_add] at this ⊢
  have CO := fun p : BelowP w => content_any d b l i la ma ml ta tl da (la + 1 + ((slot + read : Nat) : Int) % (l - 1)) p.to (hd.kept1 p.h)
  rw [show rText S (la + 1 + ((slot + read : Nat) : Int) % (l - 1)) = slotT S la l (slot + read) from rfl] at CO
  generalize la + 1 + ((slot + read : Nat) : Int) % (l - 1) = bl at *
  generalize slotT S la l (slot + read) = T at *
  have BL := Lib.hid BL
  have CO := Lib.hid CO
  have MO := Lib.hid (fun w (ht : Tab w) => more_any sum hsum T hsz w ht)
  have H := Lib.hid h
  have HT := Lib.hid ht
  clear kb hr hd h ht hsz hl hla
  go_enter Tryz.func111, Tryz.ntmps111
  go_wp2
  refine wp_region_quiet_below mixed (by kernel_rfl) ?_
  repeat (go_big_quiet_step (fail))
  refine wpQuiet_nil ?_
  intro w0q hw'
  obtain ⟨⟨wq, bq⟩, hw''⟩ := hw'
  have hw2 : wq = w0q := hw''.symm
  clear hw''
  subst hw2
  have H1 := H.out.kept1 bq
  have HT1 := tab_below1 HT.out bq
  have b1 := bq
  have CO1 := fun p : BelowP wq => CO.out ⟨p.to, bnext b1 p.h⟩
  rename_i w0
  clear bq k0 k1 k2 k3 k4 k5 k6 k7 k8 k9 k10 k11 k13 CO H HT
  have kb := fun p : BelowP wq => RdAt.cells (Blk.kept1 H1 p.h)
  have k0 := fun p => (kb p).1
  have k1 := fun p => (kb p).2.1
  have k2 := fun p => (kb p).2.2.1
  have k3 := fun p => (kb p).2.2.2.1
  have k4 := fun p => (kb p).2.2.2.2.1
  have k5 := fun p => (kb p).2.2.2.2.2.1
  have k6 := fun p => (kb p).2.2.2.2.2.2.1
  have k7 := fun p => (kb p).2.2.2.2.2.2.2.1
  have k8 := fun p => (kb p).2.2.2.2.2.2.2.2.1
  have k9 := fun p => (kb p).2.2.2.2.2.2.2.2.2.1
  have k10 := fun p => (kb p).2.2.2.2.2.2.2.2.2.2.1
  have k13 := fun p => (kb p).2.2.2.2.2.2.2.2.2.2.2.2.2.1
  have CO1 := Lib.hid CO1
  clear kb
  go_wp2
  refine wp_region_quiet_below mixed (by kernel_rfl) ?_
  repeat (go_big_quiet_step (first | (go_at_call 75; refine calls_below (BL.out _)) | (go_at_call 90; refine calls_below (CO1.out _))))
  refine wpQuiet_nil ?_
  intro w0q hw'
  obtain ⟨⟨wq, bq⟩, hw''⟩ := hw'
  have hw2 : wq = w0q := hw''.symm
  clear hw''
  subst hw2
  have H2 := H1.kept1 bq
  have HT2 := tab_below1 HT1 bq
  have b2 := bnext b1 bq
  clear bq k0 k1 k2 k3 k4 k5 k6 k7 k8 k9 k10 k13 CO1 H1 HT1 b1 BL
  obtain ⟨c0, c1, c2, c3, c4, c5, c6, c7, c8, c9, c10, c11, c12, c13, c14⟩ := RdAt.cells H2
  have f13 := H2.frozen 13
  have hgl : g < wq.heap.size := H2.lt
  have H3 : RdAt g d b l i la ma ml ta tl da slot left seq ((read : Int) + 1) sum (wq.setCell ⟨g, 13, none⟩ (.int .i64 ((read : Int) + 1))) := by
    have := H2.set 13 (.int .i64 ((read : Int) + 1)); simpa using this
  have Z3 : Zone g (g + 1) w (wq.setCell ⟨g, 13, none⟩ (.int .i64 ((read : Int) + 1))) := (Zone.of_below b2 g (g + 1)).set (by show g ≤ g; omega) (by show g < g + 1; omega) _
  have d14 := H3.cell 14
  have d13 := H3.frozen 14
  have MO3 := MO.out (wq.setCell ⟨g, 13, none⟩ (.int .i64 ((read : Int) + 1))) (tab_zone HT2 ((Zone.refl g (g + 1) wq).set (by show g ≤ g; omega) (by show g < g + 1; omega) _) hg0)
  simp at d14
  have HM := Lib.hid MO3
  have H3h := Lib.hid H3
  have Z3h := Lib.hid Z3
  clear H2 HT2 b2 H3 Z3 MO3 MO
  go_wp2_with fail
  refine HM.out.mono ?_; rintro e w4 ⟨rfl, rfl⟩
  have H4 : RdAt g d b l i la ma ml ta tl da slot left seq ((read : Int) + 1) (moreV sum T.data.toList) ((wq.setCell ⟨g, 13, none⟩ (.int .i64 ((read : Int) + 1))).setCell ⟨g, 14, none⟩ (.int .u32 (moreV sum T.data.toList : Nat))) := by
    have := H3h.out.set 14 (.int .u32 (moreV sum T.data.toList : Nat)); simpa using this
  have Z4 := Z3h.out.set (p := ⟨g, 14, none⟩) (by show g ≤ g; omega) (by show g < g + 1; omega) (.int .u32 (moreV sum T.data.toList : Nat))
  have H4 := Lib.hid H4
  have Z4 := Lib.hid Z4
  clear H3h Z3h HM
  go_wp2
  go_ret2
  exact ⟨rfl, H4.out, Z4.out⟩
end Go.Proofs.YtanghmogeiiooaaGreatDoor

/- The contracts of sums.Sum, and of the document's. -/
namespace Go.Proofs.YtanghmogeiiooaaGreatDoor
open Go.RowKit

theorem sum_any (s : ByteArray) (hs : s.size ≤ maxLen) (w : World) (ht : Tab w) :
    Calls Tryz.prog 79 #[.string s] w fun e w' => e = .returned (.int .u32 (moreV 0 s.data.toList : Nat)) ∧ w = w' := by
  have M := Lib.hid (more_any 0 (by decide) s hs w ht)
  clear ht
  go_enter Tryz.func79, Tryz.ntmps79
  go_wp2_with fail
  refine M.out.mono ?_; rintro e w' ⟨rfl, rfl⟩
  go_wp2
  go_ret
  exact ⟨rfl, rfl⟩

end Go.Proofs.YtanghmogeiiooaaGreatDoor
