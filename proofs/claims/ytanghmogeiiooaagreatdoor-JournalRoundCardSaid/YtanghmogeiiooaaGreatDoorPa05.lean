import Derived.Test.YtanghmogeiiooaaGreatDoorPa04
import Derived.Laws.IdiomStrings
import Derived.Lib.Strings
import Derived.Deep.QuietTactic
import Derived.BigQuiet
set_option linter.unusedVariables false
set_option linter.unusedSimpArgs false
set_option linter.constructorNameAsVariable false
/- The contracts of words.Put and of the document's Put, and of their twins for ints. -/
namespace Go.Proofs.YtanghmogeiiooaaGreatDoor
open Go.RowKit

/-- the text l with the k lowest bytes of n at a -/
def putL (l : List UInt8) (a k n : Nat) : List UInt8 := l.take a ++ leB k n ++ l.drop (a + k)
def putS (s : ByteArray) (a k n : Nat) : ByteArray := ⟨(putL s.data.toList a k n).toArray⟩

theorem putL_length (l : List UInt8) (a k n : Nat) (h : a + k ≤ l.length) : (putL l a k n).length = l.length := by
  unfold putL; simp [leB_length]; omega

theorem putL_zero (l : List UInt8) (a n : Nat) : putL l a 0 n = l := by unfold putL leB; simp

theorem putL_succ (l : List UInt8) (a k n : Nat) (h : a + k < l.length) : putL l a (k + 1) n = (putL l a k n).set (a + k) (UInt8.ofNat (n / 256 ^ k)) := by
  unfold putL
  rw [leB_succ_snoc, List.set_append_right _ _ (by simp [leB_length]; omega)]
  have e : a + k - (l.take a ++ leB k n).length = 0 := by simp [leB_length]; omega
  rw [e, List.drop_eq_getElem_cons h, List.set_cons_zero]
  simp [Nat.add_assoc]

/-- what a string's bytes become in memory -/
theorem bytes_made (s : ByteArray) (w : World) : ∃ (cap lo : Nat) (C : Array Value), (convert 9 43 (.string s)).run Tryz.prog w = .ok (.slice (some ⟨w.heap.size, 0, none⟩) s.size cap) (w.alloc (.cells C 5 (lo, lo + 1))).drew ∧ s.size ≤ lo ∧ ∀ j (h : j < s.size), C[j]? = some (.int .u8 ((s.data.toList[j]'(by simpa using h)).toNat : Int)) := by
  refine ⟨_, _, _, run_bytes_of_string w 9 43 5 s Tryz.underlying9 Tryz.underlying43 Tryz.underlying5, ?_, fun j h => ?_⟩
  · unfold bytesRow; simp
  · rw [bytesRow_at s _ j h]; simp

theorem ret_pair {a b c d : Value} (h1 : a = b) (h2 : c = d) : Ending.returned (.tuple #[a, c]) = .returned (.tuple #[b, d]) := by rw [h1, h2]
theorem ret_boolW {a b : Bool} (h : a = b) : Ending.returned (.bool a) = .returned (.bool b) := by rw [h]
theorem plain_add (b o j : Nat) : (⟨b, o, none⟩ : Addr).add j = ⟨b, o + j, none⟩ := by unfold Addr.add; split <;> simp_all

set_option maxHeartbeats 400000 in
theorem fits_any (n z : Nat) (hn : n < 18446744073709551616) (hz : z = 1 ∨ z = 2 ∨ z = 4 ∨ z = 8) (w : World) :
    Calls Tryz.prog 146 #[.int .u64 n, .int .i64 z] w fun e w' => e = .returned (.bool (decide (n < 256 ^ z))) ∧ w = w' := by
  rcases hz with rfl | rfl | rfl | rfl
  all_goals
    go_enter Tryz.func146, Tryz.ntmps146
    go_wp2
    go_ret
    exact ⟨ret_boolW (by rw [Bool.eq_iff_iff]; simp only [beq_iff_eq, decide_eq_true_eq]; omega), rfl⟩

set_option maxHeartbeats 400000 in
theorem put_yes (s : ByteArray) (hs : s.size ≤ maxLen) (a z n : Nat) (hz : z = 1 ∨ z = 2 ∨ z = 4 ∨ z = 8) (ha : a + z ≤ s.size) (hn : n < 256 ^ z) (w : World) :
    Calls Tryz.prog 137 #[.string s, .int .i64 a, .int .i64 z, .int .u64 n] w fun e w' => e = .returned (.tuple #[.string (putS s a z n), .bool true]) ∧ Below w.heap.size w w' := by
  have hok : fieldOk s.size a z = true := by unfold fieldOk; simp; omega
  have hv := valid_any s hs a z
  rw [hok] at hv
  have HV := Lib.hid hv
  clear hv hok
  have hn64 : n < 18446744073709551616 := by
    have h3 : (256 : Nat) ^ z ≤ 256 ^ 8 := Nat.pow_le_pow_right (by decide) (by omega)
    have h4 : (256 : Nat) ^ 8 = 18446744073709551616 := by decide
    omega
  have hf := fits_any n z hn64 hz
  rw [decide_eq_true hn] at hf
  have HF := Lib.hid hf
  clear hf
  obtain ⟨cap, lo, C, hconv, hlo, hC⟩ := bytes_made s w
  have HC := Lib.hid hC
  clear hC
  unfold maxLen at hs
  go_enter Tryz.func137, Tryz.ntmps137
  go_wp2_with (first | (go_at_call 139; refine (HV.out _).mono ?_; rintro e w' ⟨rfl, rfl⟩) | (go_at_call 146; refine (HF.out _).mono ?_; rintro e w' ⟨rfl, rfl⟩))
  go_loopw [26] (fun i wr => ∃ k : Nat, k ≤ z ∧ i = .int .i64 k ∧ Below w.heap.size w wr ∧ w.heap.size < wr.heap.size ∧ ∀ j (h : j < s.size), wr.cell? ⟨w.heap.size, j, none⟩ = some (.int .u8 (((putL s.data.toList a k n)[j]?.getD 0).toNat : Int)) ∧ wr.frozen? ⟨w.heap.size, j, none⟩ = false) (fun i _ => z - (intOf i).toNat)
  case atStart =>
    refine ⟨0, Nat.zero_le _, rfl, ((Below.refl _ _).alloc (Nat.le_refl _) _).drew, by show _ < (w.heap.push _).size; simp, fun j h => ⟨?_, ?_⟩⟩
    · show (w.alloc (.cells C 5 (lo, lo + 1))).cell? _ = _
      rw [World.cell?_alloc_mark, HC.out j h, putL_zero, List.getElem?_eq_getElem (by simpa using h)]; rfl
    · show (w.alloc (.cells C 5 (lo, lo + 1))).frozen? _ = _
      rw [World.frozen?_alloc_mark]; simp; omega
  case round =>
    obtain ⟨k, hk, rfl, hb, hsz, hc⟩ := hrel
    by_cases hlt : k < z
    · obtain ⟨hc1, hf1⟩ := hc (a + k) (by omega)
      have HK := Lib.hid hc
      clear hc
      go_wp2
      refine ⟨⟨k + 1, by omega, by go_num, hb.setCell (Nat.le_refl _) _, by simpa [World.setCell] using hsz, fun j h => ⟨?_, ?_⟩⟩, by simp [intOf]; omega⟩
      · rw [putL_succ _ _ _ _ (by have : s.data.toList.length = s.size := rfl; omega)]
        by_cases hj : j = a + k
        · subst hj
          rw [World.cell?_setCell_same _ _ _ hc1, List.getElem?_set_self (by rw [putL_length _ _ _ _ (by have : s.data.toList.length = s.size := rfl; omega)]; exact h)]
          refine congrArg (fun x => some (Value.int .u8 x)) ?_
          simp only [Option.getD_some]
          have e1 : (UInt8.ofNat (n / 256 ^ k)).toNat = n / 256 ^ k % 256 := by simp
          rw [e1, show (256 : Nat) ^ k = 2 ^ (8 * k) by rw [Nat.pow_mul]]
          simp
        · rw [World.cell?_setCell_other _ _ _ _ (by simp), List.getElem?_set_ne (by omega)]
          exact (HK.out j h).1
      · rw [World.frozen?_setCell]; exact (HK.out j h).2
    · obtain rfl : k = z := by omega
      have hlen : (putL s.data.toList a k n).length = s.size := putL_length _ _ _ _ ha
      have hback := run_convert_bytes_back (P := Tryz.prog) wr 43 9 5 ⟨w.heap.size, 0, none⟩ cap (putL s.data.toList a k n) Tryz.underlying43 Tryz.underlying5 Tryz.underlying9 (fun j hj => by
        have := (hc j (by omega)).1
        rw [List.getElem?_eq_getElem hj] at this
        rw [plain_add, Nat.zero_add]; exact this)
      rw [hlen] at hback
      have HL := Lib.hid hlen
      clear hc hconv hlen
      go_wp2
      go_ret2
      exact ⟨rfl, hb⟩

set_option maxHeartbeats 400000 in
theorem put_bad (s : ByteArray) (hs : s.size ≤ maxLen) (a z : Int) (n : Nat) (h : fieldOk s.size a z = false) (w : World) :
    Calls Tryz.prog 137 #[.string s, .int .i64 a, .int .i64 z, .int .u64 n] w fun e w' => e = .returned (.tuple #[.string ⟨#[]⟩, .bool false]) ∧ w = w' := by
  have hv := valid_any s hs a z
  rw [h] at hv
  have HV := Lib.hid hv
  clear hv h
  go_enter Tryz.func137, Tryz.ntmps137
  go_wp2_with (go_at_call 139; refine (HV.out _).mono ?_; rintro e w' ⟨rfl, rfl⟩)
  go_ret2
  exact ⟨rfl, rfl⟩

set_option maxHeartbeats 400000 in
theorem put_big (s : ByteArray) (hs : s.size ≤ maxLen) (a z n : Nat) (hz : z = 1 ∨ z = 2 ∨ z = 4 ∨ z = 8) (h : fieldOk s.size a z = true) (hn64 : n < 18446744073709551616) (hn : ¬ n < 256 ^ z) (w : World) :
    Calls Tryz.prog 137 #[.string s, .int .i64 a, .int .i64 z, .int .u64 n] w fun e w' => e = .returned (.tuple #[.string ⟨#[]⟩, .bool false]) ∧ w = w' := by
  have hv := valid_any s hs a z
  rw [h] at hv
  have HV := Lib.hid hv
  have hf := fits_any n z hn64 hz
  rw [decide_eq_false hn] at hf
  have HF := Lib.hid hf
  clear hf hv h hn
  go_enter Tryz.func137, Tryz.ntmps137
  go_wp2_with (first | (go_at_call 139; refine (HV.out _).mono ?_; rintro e w' ⟨rfl, rfl⟩) | (go_at_call 146; refine (HF.out _).mono ?_; rintro e w' ⟨rfl, rfl⟩))
  go_ret2
  exact ⟨rfl, rfl⟩

/-- may n be put into z bytes at a? and the text in which it is put -/
def putOk (len : Nat) (a z : Int) (n : Nat) : Bool := fieldOk len a z && decide (n < 256 ^ z.toNat)
def putV (s : ByteArray) (a z : Int) (n : Nat) : ByteArray := if putOk s.size a z n then putS s a.toNat z.toNat n else ⟨#[]⟩

theorem putOk_yes {len : Nat} {a z : Int} {n : Nat} (h : putOk len a z n = true) : ∃ (b y : Nat), a = b ∧ z = y ∧ (y = 1 ∨ y = 2 ∨ y = 4 ∨ y = 8) ∧ b + y ≤ len ∧ n < 256 ^ y := by
  unfold putOk at h
  simp only [Bool.and_eq_true, decide_eq_true_eq] at h
  obtain ⟨b, y, rfl, rfl, hy, hb⟩ := fieldOk_yes h.1
  exact ⟨b, y, rfl, rfl, hy, hb, by simpa using h.2⟩

theorem putV_yes {s : ByteArray} {b y n : Nat} (h : putOk s.size b y n = true) : putV s b y n = putS s b y n := by
  unfold putV; rw [if_pos h]; simp
theorem putV_no {s : ByteArray} {a z : Int} {n : Nat} (h : putOk s.size a z n = false) : putV s a z n = ⟨#[]⟩ := by
  unfold putV; rw [if_neg (by simp [h])]

theorem putOk_cases {len : Nat} {a z : Int} {n : Nat} (h : putOk len a z n = false) : fieldOk len a z = false ∨ ∃ b y : Nat, a = b ∧ z = y ∧ (y = 1 ∨ y = 2 ∨ y = 4 ∨ y = 8) ∧ b + y ≤ len ∧ fieldOk len b y = true ∧ ¬ n < 256 ^ y := by
  by_cases hf : fieldOk len a z = true
  · have hf' := hf
    obtain ⟨b, y, rfl, rfl, hy, hb⟩ := fieldOk_yes hf
    refine .inr ⟨b, y, rfl, rfl, hy, hb, hf', fun k => ?_⟩
    unfold putOk at h
    rw [hf', Bool.true_and, decide_eq_false_iff_not] at h
    exact h (by simpa using k)
  · exact .inl (by simpa using hf)

theorem put_any (s : ByteArray) (hs : s.size ≤ maxLen) (a z : Int) (n : Nat) (hn : n < 18446744073709551616) (w : World) :
    Calls Tryz.prog 137 #[.string s, .int .i64 a, .int .i64 z, .int .u64 n] w fun e w' => e = .returned (.tuple #[.string (putV s a z n), .bool (putOk s.size a z n)]) ∧ Below w.heap.size w w' := by
  by_cases h : putOk s.size a z n = true
  · obtain ⟨b, y, rfl, rfl, hy, hb, hlt⟩ := putOk_yes h
    rw [h, putV_yes h]
    exact put_yes s hs b y n hy hb hlt w
  · have h' : putOk s.size a z n = false := by simpa using h
    rw [h', putV_no h']
    rcases putOk_cases h' with k | ⟨b, y, rfl, rfl, hy, hb, hf, hlt⟩
    · exact (put_bad s hs a z n k w).mono fun _ _ ⟨he, hw⟩ => ⟨he, hw ▸ Below.refl _ _⟩
    · exact (put_big s hs b y n hy hf hn hlt w).mono fun _ _ ⟨he, hw⟩ => ⟨he, hw ▸ Below.refl _ _⟩

/-- a byte alone, made into a text -/
theorem one_back (wr : World) (m : Nat) : (convert 43 9 (.slice (some ⟨wr.heap.size, 0, none⟩) 1 1)).run Tryz.prog (wr.alloc (.cells #[.int .u8 ((m : Int) % 256)] 5)) = .ok (.string ⟨#[UInt8.ofNat m]⟩) (wr.alloc (.cells #[.int .u8 ((m : Int) % 256)] 5)) :=
  run_convert_bytes_back (P := Tryz.prog) _ 43 9 5 ⟨wr.heap.size, 0, none⟩ 1 [UInt8.ofNat m] Tryz.underlying43 Tryz.underlying5 Tryz.underlying9 (fun j hj => by
    have : j = 0 := by simpa using hj
    subst this
    rw [plain_add]
    rw [World.cell?_alloc_mark]
    simp)

theorem putS_eq (s : ByteArray) (a k n : Nat) : s.extract 0 a ++ ⟨(leB k n).toArray⟩ ++ s.extract (a + k) s.size = putS s a k n := by
  have e : (s.data.toList.drop (a + k)).take (s.size - (a + k)) = s.data.toList.drop (a + k) := by
    apply List.take_of_length_le
    have e : s.data.toList.length = s.size := rfl
    rw [List.length_drop, e]; exact Nat.le_refl _
  rw [Lib.extract_eq, Lib.extract_eq, ByteArray.mk_append_mk, ByteArray.mk_append_mk, e, List.drop_zero, Nat.sub_zero]
  rfl

end Go.Proofs.YtanghmogeiiooaaGreatDoor

/- Records of a journal, as numbers and bytes: no program is named here. -/
namespace Go.Proofs.YtanghmogeiiooaaGreatDoor
set_option linter.unusedVariables false

structure Rec where
  kind : Int
  seq : Nat
  pos : Int
  homes : List Int
  masked : List Bool
  sum : Nat

/-! ### may homes be? -/
def hat (l : List Int) (j : Nat) : Int := (l[j]?).getD 0
def prevH (l : List Int) (j : Nat) : Int := if j = 0 then -1 else hat l (j - 1)
def upAt (l : List Int) (j : Nat) : Prop := prevH l j < hat l j ∧ hat l j < 4096
def upTo (l : List Int) (i : Nat) : Prop := ∀ j, j < i → upAt l j
instance (l : List Int) (j : Nat) : Decidable (upAt l j) := by unfold upAt; infer_instance
instance (l : List Int) (i : Nat) : Decidable (upTo l i) := by unfold upTo; infer_instance
def HomesOk (l : List Int) (most : Int) : Prop := 1 ≤ (l.length : Int) ∧ (l.length : Int) ≤ most ∧ upTo l l.length
instance (l : List Int) (most : Int) : Decidable (HomesOk l most) := by unfold HomesOk; infer_instance
theorem hat_eq {l : List Int} {j : Nat} (h : j < l.length) : hat l j = l[j] := by unfold hat; rw [List.getElem?_eq_getElem h]; rfl
theorem upTo_low {l : List Int} : ∀ {i : Nat}, upTo l i → ∀ j, j < i → 0 ≤ hat l j
  | i, h, 0, hj => by have := (h 0 hj).1; simp [prevH] at this; omega
  | i, h, j + 1, hj => by
    have h1 := upTo_low h j (by omega)
    have := (h (j + 1) hj).1
    simp [prevH] at this; omega
theorem upTo_succ {l : List Int} {i : Nat} : upTo l (i + 1) ↔ upTo l i ∧ upAt l i := by
  constructor
  · exact fun h => ⟨fun j hj => h j (by omega), h i (by omega)⟩
  · rintro ⟨h1, h2⟩ j hj
    by_cases e : j = i
    · subst e; exact h2
    · exact h1 j (by omega)
theorem upTo_zero (l : List Int) : upTo l 0 := fun j hj => by omega
theorem upTo_mono {l : List Int} {i k : Nat} (h : upTo l k) (hi : i ≤ k) : upTo l i := fun j hj => h j (by omega)

/-! ### may a record be? -/
def Ok1 (r : Rec) : Prop := r.kind = 1 ∧ 0 ≤ r.pos ∧ r.pos ≤ 510 ∧ r.homes.length = 0 ∧ r.masked.length = 0 ∧ r.sum = 0
def Ok2 (r : Rec) : Prop := r.kind = 2 ∧ HomesOk r.homes 24 ∧ r.masked.length = r.homes.length ∧ r.pos = 0 ∧ r.sum = 0
def Ok3 (r : Rec) : Prop := r.kind = 3 ∧ HomesOk r.homes 28 ∧ r.masked.length = 0 ∧ r.pos = 0 ∧ r.sum = 0
def Ok4 (r : Rec) : Prop := r.kind = 4 ∧ r.pos = 0 ∧ r.homes.length = 0 ∧ r.masked.length = 0
def RecOk (r : Rec) : Prop := Ok1 r ∨ Ok2 r ∨ Ok3 r ∨ Ok4 r
instance (r : Rec) : Decidable (Ok1 r) := by unfold Ok1; infer_instance
instance (r : Rec) : Decidable (Ok2 r) := by unfold Ok2; infer_instance
instance (r : Rec) : Decidable (Ok3 r) := by unfold Ok3; infer_instance
instance (r : Rec) : Decidable (Ok4 r) := by unfold Ok4; infer_instance
instance (r : Rec) : Decidable (RecOk r) := by unfold RecOk; infer_instance
/-- its numbers are of their kinds -/
structure Fits (r : Rec) : Prop where
  kind : -9223372036854775808 ≤ r.kind ∧ r.kind ≤ 9223372036854775807
  seq : r.seq < 18446744073709551616
  pos : -9223372036854775808 ≤ r.pos ∧ r.pos ≤ 9223372036854775807
  homes : ∀ x ∈ r.homes, -9223372036854775808 ≤ x ∧ x ≤ 9223372036854775807
  sum : r.sum < 4294967296

/-! ### its block -/
def bs (l : List UInt8) : ByteArray := ⟨l.toArray⟩
theorem bs_append (a b : List UInt8) : bs a ++ bs b = bs (a ++ b) := by
  unfold bs; rw [ByteArray.mk_append_mk]; try simp
theorem bs_size (l : List UInt8) : (bs l).size = l.length := by unfold bs; simp [ByteArray.size]
theorem bs_list (l : List UInt8) : (bs l).data.toList = l := by unfold bs; simp
theorem bs_of (s : ByteArray) : bs s.data.toList = s := by unfold bs; cases s; simp
theorem bs_inj {a b : List UInt8} (h : bs a = bs b) : a = b := by rw [← bs_list a, h, bs_list]
def flagB (b : Bool) : UInt8 := if b then 1 else 0
def homesB (l : List Int) : List UInt8 := l.flatMap fun h => leB 2 h.toNat
def marksB (l : List Bool) : List UInt8 := l.map flagB
def fieldsB (r : Rec) : List UInt8 :=
  if r.kind = 1 then leB 2 r.pos.toNat else if r.kind = 4 then leB 4 r.sum else leB 1 r.homes.length ++ homesB r.homes ++ marksB r.masked
def magicB : List UInt8 := [71, 76, 74, 119]
def headB (r : Rec) : List UInt8 := magicB ++ leB 1 r.kind.toNat ++ leB 8 r.seq
def bodyB (r : Rec) : List UInt8 := headB r ++ fieldsB r
def blkB (r : Rec) : List UInt8 := bodyB r ++ List.replicate (128 - (bodyB r).length) 0
def blk (r : Rec) : ByteArray := bs (blkB r)
theorem homesB_length (l : List Int) : (homesB l).length = 2 * l.length := by
  induction l with
  | nil => rfl
  | cons x l ih =>
    show (leB 2 x.toNat ++ homesB l).length = _
    rw [List.length_append, leB_length, ih, List.length_cons]; omega
theorem homesB_append (a b : List Int) : homesB (a ++ b) = homesB a ++ homesB b := by unfold homesB; rw [List.flatMap_append]
theorem homesB_cons (x : Int) (b : List Int) : homesB (x :: b) = leB 2 x.toNat ++ homesB b := rfl
theorem headB_length (r : Rec) : (headB r).length = 13 := by
  unfold headB magicB; simp [leB_length]
theorem marksB_length (l : List Bool) : (marksB l).length = l.length := by unfold marksB; simp
theorem fields_length {r : Rec} (h : RecOk r) : (fieldsB r).length ≤ 73 := by
  unfold fieldsB
  rcases h with h | h | h | h
  · rw [if_pos h.1, leB_length]; try decide
  · rw [if_neg (by rw [h.1]; omega), if_neg (by rw [h.1]; omega), List.length_append, List.length_append, leB_length, homesB_length, marksB_length, h.2.2.1]
    have := h.2.1.2.1; omega
  · rw [if_neg (by rw [h.1]; omega), if_neg (by rw [h.1]; omega), List.length_append, List.length_append, leB_length, homesB_length, marksB_length, h.2.2.1]
    have := h.2.1.2.1; omega
  · rw [if_neg (by rw [h.1]; omega), if_pos h.1, leB_length]; decide
theorem body_length {r : Rec} (h : RecOk r) : (bodyB r).length ≤ 86 := by
  unfold bodyB; rw [List.length_append, headB_length]; have := fields_length h; omega
theorem blkB_length {r : Rec} (h : RecOk r) : (blkB r).length = 128 := by
  unfold blkB; rw [List.length_append, List.length_replicate]; have := body_length h; omega
theorem blk_size {r : Rec} (h : RecOk r) : (blk r).size = 128 := by unfold blk; rw [bs_size, blkB_length h]

/-! ### what a block says -/
theorem field_eq {s : ByteArray} {p m q : List UInt8} {a z : Nat} (h : s.data.toList = p ++ (m ++ q)) (ha : p.length = a) (hz : m.length = z) : fieldAt s a z = m := by
  subst ha; subst hz
  unfold fieldAt; rw [h]; simp
def kindOf (s : ByteArray) : Nat := leN (fieldAt s 4 1)
def countOf (s : ByteArray) : Nat := leN (fieldAt s 13 1)
def homeOf (s : ByteArray) (i : Nat) : Nat := leN (fieldAt s (14 + 2 * i) 2)
def markOf (s : ByteArray) (n i : Nat) : Nat := leN (fieldAt s (14 + 2 * n + i) 1)
def homesOf (s : ByteArray) (n : Nat) : List Int := (List.range n).map fun i => (homeOf s i : Int)
def marksOf (s : ByteArray) (n k : Nat) : List Bool := (List.range k).map fun i => decide (markOf s n i ≠ 0)
def marksOf1 (s : ByteArray) (n k : Nat) : List Bool := (List.range k).map fun i => decide (14 + 2 * n + i < 128) && decide (markOf s n i = 1)
def readR (s : ByteArray) : Rec :=
  { kind := kindOf s, seq := leN (fieldAt s 5 8), pos := if kindOf s = 1 then (leN (fieldAt s 13 2) : Int) else 0,
    homes := if kindOf s = 2 ∨ kindOf s = 3 then homesOf s (countOf s) else [], masked := if kindOf s = 2 then marksOf s (countOf s) (countOf s) else [],
    sum := if kindOf s = 4 then leN (fieldAt s 13 4) else 0 }
def readF (s : ByteArray) : Rec :=
  { kind := kindOf s, seq := leN (fieldAt s 5 8), pos := if kindOf s = 1 then (leN (fieldAt s 13 2) : Int) else 0,
    homes := if kindOf s = 2 ∨ kindOf s = 3 then homesOf s (min (countOf s) 40) else [], masked := if kindOf s = 2 then marksOf1 s (countOf s) (min (countOf s) 24) else [],
    sum := if kindOf s = 4 then leN (fieldAt s 13 4) else 0 }
/-- has the block all that it speaks of? -/
def ReadOk (s : ByteArray) : Prop :=
  13 ≤ s.size ∧ (kindOf s = 1 → 15 ≤ s.size) ∧ (kindOf s = 2 → 14 ≤ s.size ∧ 14 + 3 * countOf s ≤ s.size) ∧ (kindOf s = 3 → 14 ≤ s.size ∧ 14 + 2 * countOf s ≤ s.size) ∧ (kindOf s = 4 → 17 ≤ s.size)
instance (s : ByteArray) : Decidable (ReadOk s) := by unfold ReadOk; infer_instance

theorem ok_kind {r : Rec} (h : RecOk r) : 1 ≤ r.kind ∧ r.kind ≤ 4 := by
  rcases h with h | h | h | h <;> rw [h.1] <;> omega
theorem blk_list (r : Rec) : (blk r).data.toList = magicB ++ (leB 1 r.kind.toNat ++ (leB 8 r.seq ++ (fieldsB r ++ List.replicate (128 - (bodyB r).length) 0))) := by
  unfold blk; rw [bs_list]; unfold blkB bodyB headB; simp
theorem blk_kind {r : Rec} (h : RecOk r) : (kindOf (blk r) : Int) = r.kind := by
  unfold kindOf
  rw [field_eq (a := 4) (blk_list r) rfl (leB_length _ _), leN_leB]
  have := ok_kind h
  omega
theorem blk_seq {r : Rec} (f : Fits r) : leN (fieldAt (blk r) 5 8) = r.seq := by
  have e : (blk r).data.toList = (magicB ++ leB 1 r.kind.toNat) ++ (leB 8 r.seq ++ (fieldsB r ++ List.replicate (128 - (bodyB r).length) 0)) := by rw [blk_list]; simp
  rw [field_eq e (by rw [List.length_append, leB_length]; rfl) (leB_length _ _), leN_leB]
  have := f.seq
  have h4 : (256 : Nat) ^ 8 = 18446744073709551616 := by decide
  omega
theorem blk_field {r : Rec} {p m q : List UInt8} {a z : Nat} (h : fieldsB r = p ++ (m ++ q)) (ha : 13 + p.length = a) (hz : m.length = z) : fieldAt (blk r) a z = m := by
  have e : (blk r).data.toList = (headB r ++ p) ++ (m ++ (q ++ List.replicate (128 - (bodyB r).length) 0)) := by rw [blk_list, h]; unfold headB; simp
  exact field_eq e (by rw [List.length_append, headB_length]; exact ha) hz
theorem blk_pos {r : Rec} (h : Ok1 r) : (leN (fieldAt (blk r) 13 2) : Int) = r.pos := by
  have e : fieldsB r = [] ++ (leB 2 r.pos.toNat ++ []) := by unfold fieldsB; rw [if_pos h.1]; simp
  rw [blk_field (a := 13) e rfl (leB_length _ _), leN_leB]
  have := h.2.1; have := h.2.2.1
  omega
theorem blk_sum {r : Rec} (h : Ok4 r) (f : Fits r) : leN (fieldAt (blk r) 13 4) = r.sum := by
  have e : fieldsB r = [] ++ (leB 4 r.sum ++ []) := by unfold fieldsB; rw [if_neg (by rw [h.1]; omega), if_pos h.1]; simp
  rw [blk_field (a := 13) e rfl (leB_length _ _), leN_leB]
  have := f.sum
  omega
theorem list_split {r : Rec} (h : r.kind = 2 ∨ r.kind = 3) : fieldsB r = leB 1 r.homes.length ++ (homesB r.homes ++ marksB r.masked) := by
  unfold fieldsB; rw [if_neg (by omega), if_neg (by omega)]; simp
theorem blk_count {r : Rec} (h : r.kind = 2 ∨ r.kind = 3) (hl : r.homes.length ≤ 28) : countOf (blk r) = r.homes.length := by
  have e : fieldsB r = [] ++ (leB 1 r.homes.length ++ (homesB r.homes ++ marksB r.masked)) := list_split h
  unfold countOf
  rw [blk_field (a := 13) e rfl (leB_length _ _), leN_leB]
  omega
theorem ok_bounds {l : List Int} {most : Int} (h : HomesOk l most) (i : Nat) (hi : i < l.length) : 0 ≤ l[i] ∧ l[i] < 4096 := by
  have h1 := upTo_low h.2.2 i hi
  have h2 := (h.2.2 i hi).2
  rw [hat_eq hi] at h1 h2
  exact ⟨h1, h2⟩
theorem blk_home {r : Rec} (h : r.kind = 2 ∨ r.kind = 3) {most : Int} (hk : HomesOk r.homes most) (i : Nat) (hi : i < r.homes.length) : (homeOf (blk r) i : Int) = r.homes[i] := by
  have e : r.homes = r.homes.take i ++ r.homes[i] :: r.homes.drop (i + 1) := by rw [← List.drop_eq_getElem_cons hi, List.take_append_drop]
  have e2 : fieldsB r = (leB 1 r.homes.length ++ homesB (r.homes.take i)) ++ (leB 2 (r.homes[i]).toNat ++ (homesB (r.homes.drop (i + 1)) ++ marksB r.masked)) := by
    rw [list_split h]
    have : homesB r.homes = homesB (r.homes.take i) ++ (leB 2 (r.homes[i]).toNat ++ homesB (r.homes.drop (i + 1))) := by
      rw [← homesB_cons, ← homesB_append, ← e]
    rw [this]; simp
  unfold homeOf
  rw [blk_field e2 (by rw [List.length_append, leB_length, homesB_length, List.length_take]; omega) (leB_length _ _), leN_leB]
  have := ok_bounds hk i hi
  omega
theorem blk_mark {r : Rec} (h : r.kind = 2 ∨ r.kind = 3) (i : Nat) (hi : i < r.masked.length) : markOf (blk r) r.homes.length i = (flagB r.masked[i]).toNat := by
  have e : r.masked = r.masked.take i ++ r.masked[i] :: r.masked.drop (i + 1) := by rw [← List.drop_eq_getElem_cons hi, List.take_append_drop]
  have e2 : fieldsB r = (leB 1 r.homes.length ++ (homesB r.homes ++ marksB (r.masked.take i))) ++ ([flagB r.masked[i]] ++ marksB (r.masked.drop (i + 1))) := by
    rw [list_split h]
    have : marksB r.masked = marksB (r.masked.take i) ++ ([flagB r.masked[i]] ++ marksB (r.masked.drop (i + 1))) := by
      unfold marksB
      rw [show [flagB r.masked[i]] ++ List.map flagB (r.masked.drop (i + 1)) = List.map flagB (r.masked[i] :: r.masked.drop (i + 1)) from rfl, ← List.map_append, ← e]
    rw [this]; simp
  unfold markOf
  rw [blk_field (z := 1) e2 (by rw [List.length_append, List.length_append, leB_length, homesB_length, marksB_length, List.length_take]; omega) rfl]
  simp [leN]
theorem blk_homes {r : Rec} (h : r.kind = 2 ∨ r.kind = 3) {most : Int} (hk : HomesOk r.homes most) : homesOf (blk r) r.homes.length = r.homes := by
  unfold homesOf
  apply List.ext_getElem
  · simp
  · intro i h1 h2
    simp only [List.getElem_map, List.getElem_range]
    exact blk_home h hk i h2
theorem flag_iff (b : Bool) : decide ((flagB b).toNat ≠ 0) = b := by cases b <;> rfl
theorem flag_iff1 (b : Bool) : decide ((flagB b).toNat = 1) = b := by cases b <;> rfl
theorem blk_marks {r : Rec} (h : r.kind = 2) (hm : r.masked.length = r.homes.length) : marksOf (blk r) r.homes.length r.homes.length = r.masked := by
  unfold marksOf
  apply List.ext_getElem
  · simp [hm]
  · intro i h1 h2
    simp only [List.getElem_map, List.getElem_range]
    rw [blk_mark (.inl h) i h2, flag_iff]
theorem blk_marks1 {r : Rec} (h : r.kind = 2) (hm : r.masked.length = r.homes.length) (hl : r.homes.length ≤ 24) : marksOf1 (blk r) r.homes.length r.homes.length = r.masked := by
  unfold marksOf1
  apply List.ext_getElem
  · simp [hm]
  · intro i h1 h2
    simp only [List.getElem_map, List.getElem_range]
    rw [blk_mark (.inl h) i h2, flag_iff1, decide_eq_true (by omega)]; rfl

theorem rec_ext {a b : Rec} (h1 : a.kind = b.kind) (h2 : a.seq = b.seq) (h3 : a.pos = b.pos) (h4 : a.homes = b.homes) (h5 : a.masked = b.masked) (h6 : a.sum = b.sum) : a = b := by
  cases a; cases b; simp_all
theorem blk_read {r : Rec} (h : RecOk r) (f : Fits r) : ReadOk (blk r) ∧ readR (blk r) = r ∧ readF (blk r) = r := by
  have hk := blk_kind h
  have hs := blk_size h
  have hq := blk_seq f
  unfold ReadOk readR readF
  rw [hs, hq]
  rcases h with h | h | h | h
  · have k1 : kindOf (blk r) = 1 := by have := h.1; omega
    have e3 := blk_pos h
    obtain ⟨a1, _, _, a4, a5, a6⟩ := h
    have e4 := List.length_eq_zero_iff.1 a4
    have e5 := List.length_eq_zero_iff.1 a5
    refine ⟨by rw [k1]; omega, rec_ext ?_ ?_ ?_ ?_ ?_ ?_, rec_ext ?_ ?_ ?_ ?_ ?_ ?_⟩ <;> simp [k1, a1, e3, e4, e5, a6]
  · have k1 : kindOf (blk r) = 2 := by have := h.1; omega
    have hl := h.2.1.2.1
    have hc := blk_count (.inl h.1) (show r.homes.length ≤ 28 by omega)
    have e1 := blk_homes (.inl h.1) h.2.1
    have e2 := blk_marks h.1 h.2.2.1
    have e3 := blk_marks1 h.1 h.2.2.1 (by omega)
    have m1 : min r.homes.length 40 = r.homes.length := by omega
    have m2 : min r.homes.length 24 = r.homes.length := by omega
    obtain ⟨a1, _, _, a4, a5⟩ := h
    refine ⟨by rw [k1]; omega, rec_ext ?_ ?_ ?_ ?_ ?_ ?_, rec_ext ?_ ?_ ?_ ?_ ?_ ?_⟩ <;> simp [k1, a1, hc, e1, e2, e3, m1, m2, a4, a5]
  · have k1 : kindOf (blk r) = 3 := by have := h.1; omega
    have hl := h.2.1.2.1
    have hc := blk_count (.inr h.1) (show r.homes.length ≤ 28 by omega)
    have e1 := blk_homes (.inr h.1) h.2.1
    have m1 : min r.homes.length 40 = r.homes.length := by omega
    obtain ⟨a1, _, a3, a4, a5⟩ := h
    have e5 := List.length_eq_zero_iff.1 a3
    refine ⟨by rw [k1]; omega, rec_ext ?_ ?_ ?_ ?_ ?_ ?_, rec_ext ?_ ?_ ?_ ?_ ?_ ?_⟩ <;> simp [k1, a1, hc, e1, m1, a4, a5, e5]
  · have k1 : kindOf (blk r) = 4 := by have := h.1; omega
    have e3 := blk_sum h f
    obtain ⟨a1, a2, a4, a5⟩ := h
    have e4 := List.length_eq_zero_iff.1 a4
    have e5 := List.length_eq_zero_iff.1 a5
    refine ⟨by rw [k1]; omega, rec_ext ?_ ?_ ?_ ?_ ?_ ?_, rec_ext ?_ ?_ ?_ ?_ ?_ ?_⟩ <;> simp [k1, a1, a2, e3, e4, e5]

/-- is it the block of a record? and of which -/
def IsBlk (s : ByteArray) : Prop := ReadOk s ∧ RecOk (readR s) ∧ blk (readR s) = s
instance (s : ByteArray) : Decidable (IsBlk s) := by unfold IsBlk; infer_instance
theorem isBlk_of {r : Rec} (h : RecOk r) (f : Fits r) : IsBlk (blk r) ∧ readR (blk r) = r := by
  obtain ⟨h1, h2, _⟩ := blk_read h f
  exact ⟨⟨h1, by rw [h2]; exact h, by rw [h2]⟩, h2⟩
end Go.Proofs.YtanghmogeiiooaaGreatDoor
