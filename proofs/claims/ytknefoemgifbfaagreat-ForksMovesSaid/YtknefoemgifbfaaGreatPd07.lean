import Derived.Test.YtknefoemgifbfaaGreatPd06
import Derived.Laws.IdiomStrings
import Derived.Lib.Strings
import Derived.Deep.QuietTactic
import Derived.BigQuiet
set_option linter.unusedVariables false
set_option linter.unusedSimpArgs false
set_option linter.constructorNameAsVariable false
set_option maxRecDepth 100000
set_option maxHeartbeats 16000000
namespace Go.Proofs.YtknefoemgifbfaaGreat
open Go.RowKit
def putL (l : List UInt8) (a k n : Nat) : List UInt8 := l.take a ++ leB k n ++ l.drop (a + k)
def putS (s : ByteArray) (a k n : Nat) : ByteArray := ⟨(putL s.data.toList a k n).toArray⟩
theorem ret_pair {a b c d : Value} (h1 : a = b) (h2 : c = d) : Ending.returned (.tuple #[a, c]) = .returned (.tuple #[b, d]) := by rw [h1, h2]
theorem plain_add (b o j : Nat) : (⟨b, o, none⟩ : Addr).add j = ⟨b, o + j, none⟩ := by unfold Addr.add; split <;> simp_all
def putOk (len : Nat) (a z : Int) (n : Nat) : Bool := fieldOk len a z && decide (n < 256 ^ z.toNat)
def putV (s : ByteArray) (a z : Int) (n : Nat) : ByteArray := if putOk s.size a z n then putS s a.toNat z.toNat n else ⟨#[]⟩
theorem putV_yes {s : ByteArray} {b y n : Nat} (h : putOk s.size b y n = true) : putV s b y n = putS s b y n := by
 unfold putV; rw [if_pos h]; simp
theorem putV_no {s : ByteArray} {a z : Int} {n : Nat} (h : putOk s.size a z n = false) : putV s a z n = ⟨#[]⟩ := by
 unfold putV; rw [if_neg (by simp [h])]
theorem rput_bad (s : ByteArray) (hs : s.size ≤ maxLen) (a z : Int) (n : Nat) (h : fieldOk s.size a z = false) (w : World) :
 Calls Tryz.prog 137 #[.string s, .int .i64 a, .int .i64 z, .int .u64 n] w fun e w' => e = .returned (.tuple #[.string ⟨#[]⟩, .bool false]) ∧ w = w' := by
 have hv := within_any s hs a z;rw [h] at hv;have HV := Lib.hid hv;clear hv h
 go_enter Tryz.func137, Tryz.ntmps137
 go_wp2_with (go_at_call 160; refine (HV.out _).mono ?_; rintro e w' ⟨rfl, rfl⟩)
 go_ret2
 exact ⟨rfl, rfl⟩
theorem one_back (wr : World) (m : Nat) : (convert 97 9 (.slice (some ⟨wr.heap.size, 0, none⟩) 1 1)).run Tryz.prog (wr.alloc (.cells #[.int .u8 ((m : Int) % 256)] 5)) = .ok (.string ⟨#[UInt8.ofNat m]⟩) (wr.alloc (.cells #[.int .u8 ((m : Int) % 256)] 5)) :=
 run_convert_bytes_back (P := Tryz.prog) _ 97 9 5 ⟨wr.heap.size, 0, none⟩ 1 [UInt8.ofNat m] Tryz.underlying97 Tryz.underlying5 Tryz.underlying9 (fun j hj => by
  have : j = 0 := by simpa using hj
  subst this;rw [plain_add];rw [World.cell?_alloc_mark]
  simp)
theorem putS_eq (s : ByteArray) (a k n : Nat) : s.extract 0 a ++ ⟨(leB k n).toArray⟩ ++ s.extract (a + k) s.size = putS s a k n := by
 have e : (s.data.toList.drop (a + k)).take (s.size - (a + k)) = s.data.toList.drop (a + k) := by
  apply List.take_of_length_le
  have e : s.data.toList.length = s.size := rfl;rw [List.length_drop, e]; exact Nat.le_refl _
 rw [Lib.extract_eq, Lib.extract_eq, ByteArray.mk_append_mk, ByteArray.mk_append_mk, e, List.drop_zero, Nat.sub_zero];rfl
theorem rput_in (s : ByteArray) (hs : s.size ≤ maxLen) (a z n : Nat) (hz : z = 1 ∨ z = 2 ∨ z = 4 ∨ z = 8) (ha : a + z ≤ s.size) (hn : n < 18446744073709551616) (w : World) :
 Calls Tryz.prog 137 #[.string s, .int .i64 a, .int .i64 z, .int .u64 n] w fun e w' => e = .returned (.tuple #[.string (putV s a z n), .bool (putOk s.size a z n)]) ∧ Below w.heap.size w w' := by
 have hok : fieldOk s.size a z = true := by unfold fieldOk; simp; omega
 have hv := within_any s hs a z;rw [hok] at hv;have HV := Lib.hid hv
 have hq : putOk s.size a z n = decide (n < 256 ^ z) := by unfold putOk; rw [hok]; simp
 have HO := Lib.hid hok;clear hv hok
 have hz8 : z ≤ 8 := by omega
 rw [hq];unfold maxLen at hs;have HQ := Lib.hid hq;clear hq hz
 go_enter Tryz.func137, Tryz.ntmps137
 go_wp2_with (go_at_call 160; refine (HV.out _).mono ?_; rintro e w' ⟨rfl, rfl⟩)
 go_loopw [3, 10, 11] (fun m b i wr => ∃ k q : Nat, k ≤ z ∧ i = .int .i64 k ∧ b = .string ⟨(leB k n).toArray⟩ ∧ m = .int .u64 (q : Int) ∧ Hid (n / 256 ^ k = q) ∧ Below w.heap.size w wr) (fun _ _ i _ => z - (intOf i).toNat)
 case atStart => exact ⟨0, n, Nat.zero_le _, rfl, rfl, rfl, by show n / 256 ^ 0 = n; simp, Below.refl _ _⟩
 case round =>
  obtain ⟨k, m, hk, rfl, rfl, rfl, HM, hb⟩ := hrel
  have hle : m ≤ n := by rw [← HM.out]; exact Nat.div_le_self _ _
  have hl8 : (leB k n).length ≤ 8 := by rw [leB_length]; omega
  by_cases hlt : k < z
  ·have hone := one_back wr m
   go_wp2;refine ⟨⟨k + 1, m / 256, by omega, by go_num, ?_, by simp, ?_, hb.alloc hb.size _⟩, by simp [intOf]; omega⟩
   ·rw [leB_succ_snoc, HM.out]
    congr 1
   ·show n / 256 ^ (k + 1) = m / 256
    rw [← HM.out, Nat.pow_succ, Nat.div_div_eq_div_mul]
  ·obtain rfl : k = z := by omega
   by_cases hpos : 0 < m
   ·have hno : decide (n < 256 ^ k) = false := by
     rw [decide_eq_false_iff_not]; intro h;have := HM.out; rw [Nat.div_eq_of_lt h] at this; omega
    have HN := Lib.hid hno;clear hno;go_wp2
    go_ret2
    exact ⟨ret_pair (congrArg Value.string (putV_no (HQ.out.trans HN.out)).symm) (congrArg Value.bool HN.out.symm), hb⟩
   ·have hyes : decide (n < 256 ^ k) = true := by
     rw [decide_eq_true_eq]
     have h0 : n / 256 ^ k = 0 := by rw [HM.out]; omega
     exact (Nat.div_eq_zero_iff_lt (Nat.pow_pos (by decide))).1 h0
    have HY := Lib.hid hyes;clear hyes;go_wp2
    have ha0 : (0 : Int) ≤ (a : Int) := by omega
    have ha1 : (a : Int) ≤ (s.size : Int) := by omega
    have ha2 : (a : Int) + (k : Int) ≤ (s.size : Int) := by omega
    have hc1 : ¬ (9223372036854775807 < min a s.size + (leB k n).length) := by rw [leB_length]; omega
    have hc2 : ¬ (9223372036854775807 < min a s.size + (leB k n).length + (s.size - (a + k))) := by rw [leB_length]; omega
    go_quiet (fail)
    go_wp2
    go_ret2
    exact ⟨ret_pair (congrArg Value.string (by rw [putV_yes (HQ.out.trans HY.out)]; exact putS_eq s a k n)) (congrArg Value.bool HY.out.symm), below_drewN hb _⟩
theorem rput_any (s : ByteArray) (hs : s.size ≤ maxLen) (a z : Int) (n : Nat) (hn : n < 18446744073709551616) (w : World) :
 Calls Tryz.prog 137 #[.string s, .int .i64 a, .int .i64 z, .int .u64 n] w fun e w' => e = .returned (.tuple #[.string (putV s a z n), .bool (putOk s.size a z n)]) ∧ Below w.heap.size w w' := by
 by_cases h : fieldOk s.size a z = true
 ·obtain ⟨b, y, rfl, rfl, hy, hb⟩ := fieldOk_yes h
  exact rput_in s hs b y n hy hb hn w
 ·have h' : fieldOk s.size a z = false := by simpa using h
  have hq : putOk s.size a z n = false := by unfold putOk; rw [h']; rfl
  rw [hq, putV_no hq];exact (rput_bad s hs a z n h' w).mono fun _ _ ⟨he, hw⟩ => ⟨he, hw ▸ Below.refl _ _⟩
structure Rec where
 kind : Int
 seq : Nat
 pos : Int
 homes : List Int
 masked : List Bool
 sum : Nat
def hat (l : List Int) (j : Nat) : Int := (l[j]?).getD 0
def prevH (l : List Int) (j : Nat) : Int := if j = 0 then -1 else hat l (j - 1)
def upAt (l : List Int) (j : Nat) : Prop := prevH l j < hat l j ∧ hat l j < 4096
def upTo (l : List Int) (i : Nat) : Prop := ∀ j, j < i → upAt l j
instance (l : List Int) (j : Nat) : Decidable (upAt l j) := by unfold upAt; infer_instance
instance (l : List Int) (i : Nat) : Decidable (upTo l i) := by unfold upTo; infer_instance
def HomesOk (l : List Int) (most : Int) : Prop := 1 ≤ (l.length : Int) ∧ (l.length : Int) ≤ most ∧ upTo l l.length
instance (l : List Int) (most : Int) : Decidable (HomesOk l most) := by unfold HomesOk; infer_instance
def Ok1 (r : Rec) : Prop := r.kind = 1 ∧ 0 ≤ r.pos ∧ r.pos ≤ 510 ∧ r.homes.length = 0 ∧ r.masked.length = 0 ∧ r.sum = 0
def Ok2 (r : Rec) : Prop := r.kind = 2 ∧ HomesOk r.homes 24 ∧ r.masked.length = r.homes.length ∧ r.pos = 0 ∧ r.sum = 0
def Ok3 (r : Rec) : Prop := r.kind = 3 ∧ HomesOk r.homes 28 ∧ r.masked.length = 0 ∧ r.pos = 0 ∧ r.sum = 0
def Ok4 (r : Rec) : Prop := r.kind = 4 ∧ r.pos = 0 ∧ r.homes.length = 0 ∧ r.masked.length = 0
def RecOk (r : Rec) : Prop := Ok1 r ∨ Ok2 r ∨ Ok3 r ∨ Ok4 r
instance (r : Rec) : Decidable (Ok1 r) := by unfold Ok1; infer_instance
instance (r : Rec) : Decidable (Ok2 r) := by unfold Ok2; infer_instance
instance (r : Rec) : Decidable (Ok3 r) := by unfold Ok3; infer_instance
instance (r : Rec) : Decidable (Ok4 r) := by unfold Ok4; infer_instance
instance (r : Rec) : Decidable (RecOk r) := by unfold RecOk; infer_instance
structure Fits (r : Rec) : Prop where
 kind : -9223372036854775808 ≤ r.kind ∧ r.kind ≤ 9223372036854775807
 seq : r.seq < 18446744073709551616
 pos : -9223372036854775808 ≤ r.pos ∧ r.pos ≤ 9223372036854775807
 homes : ∀ x ∈ r.homes, -9223372036854775808 ≤ x ∧ x ≤ 9223372036854775807
 sum : r.sum < 4294967296
def bs (l : List UInt8) : ByteArray := ⟨l.toArray⟩
theorem bs_append (a b : List UInt8) : bs a ++ bs b = bs (a ++ b) := by
 unfold bs; rw [ByteArray.mk_append_mk]; try simp
theorem bs_size (l : List UInt8) : (bs l).size = l.length := by unfold bs; simp [ByteArray.size]
theorem bs_list (l : List UInt8) : (bs l).data.toList = l := by unfold bs; simp
theorem bs_of (s : ByteArray) : bs s.data.toList = s := by unfold bs; cases s; simp
def flagB (b : Bool) : UInt8 := if b then 1 else 0
def homesB (l : List Int) : List UInt8 := l.flatMap fun h => leB 2 h.toNat
def marksB (l : List Bool) : List UInt8 := l.map flagB
def fieldsB (r : Rec) : List UInt8 :=
 if r.kind = 1 then leB 2 r.pos.toNat else if r.kind = 4 then leB 4 r.sum else leB 1 r.homes.length ++ homesB r.homes ++ marksB r.masked
def magicB : List UInt8 := [71, 76, 74, 119]
def headB (r : Rec) : List UInt8 := magicB ++ leB 1 r.kind.toNat ++ leB 8 r.seq
def bodyB (r : Rec) : List UInt8 := headB r ++ fieldsB r
def blkB (r : Rec) : List UInt8 := bodyB r ++ List.replicate (128 - (bodyB r).length) 0
def blk (r : Rec) : ByteArray := bs (blkB r)
theorem field_eq {s : ByteArray} {p m q : List UInt8} {a z : Nat} (h : s.data.toList = p ++ (m ++ q)) (ha : p.length = a) (hz : m.length = z) : fieldAt s a z = m := by
 subst ha; subst hz;unfold fieldAt; rw [h]; simp
def kindOf (s : ByteArray) : Nat := leN (fieldAt s 4 1)
def countOf (s : ByteArray) : Nat := leN (fieldAt s 13 1)
def homeOf (s : ByteArray) (i : Nat) : Nat := leN (fieldAt s (14 + 2 * i) 2)
def markOf (s : ByteArray) (n i : Nat) : Nat := leN (fieldAt s (14 + 2 * n + i) 1)
def homesOf (s : ByteArray) (n : Nat) : List Int := (List.range n).map fun i => (homeOf s i : Int)
def marksOf (s : ByteArray) (n k : Nat) : List Bool := (List.range k).map fun i => decide (markOf s n i ≠ 0)
def marksOf1 (s : ByteArray) (n k : Nat) : List Bool := (List.range k).map fun i => decide (14 + 2 * n + i < 128) && decide (markOf s n i = 1)
def readR (s : ByteArray) : Rec :=
 {kind := kindOf s, seq := leN (fieldAt s 5 8), pos := if kindOf s = 1 then (leN (fieldAt s 13 2) : Int) else 0,
  homes := if kindOf s = 2 ∨ kindOf s = 3 then homesOf s (countOf s) else [], masked := if kindOf s = 2 then marksOf s (countOf s) (countOf s) else [],
  sum := if kindOf s = 4 then leN (fieldAt s 13 4) else 0 }
def readF (s : ByteArray) : Rec :=
 {kind := kindOf s, seq := leN (fieldAt s 5 8), pos := if kindOf s = 1 then (leN (fieldAt s 13 2) : Int) else 0,
  homes := if kindOf s = 2 ∨ kindOf s = 3 then homesOf s (min (countOf s) 40) else [], masked := if kindOf s = 2 then marksOf1 s (countOf s) (min (countOf s) 24) else [],
  sum := if kindOf s = 4 then leN (fieldAt s 13 4) else 0 }
def ReadOk (s : ByteArray) : Prop :=
 13 ≤ s.size ∧ (kindOf s = 1 → 15 ≤ s.size) ∧ (kindOf s = 2 → 14 ≤ s.size ∧ 14 + 3 * countOf s ≤ s.size) ∧ (kindOf s = 3 → 14 ≤ s.size ∧ 14 + 2 * countOf s ≤ s.size) ∧ (kindOf s = 4 → 17 ≤ s.size)
instance (s : ByteArray) : Decidable (ReadOk s) := by unfold ReadOk; infer_instance
def IsBlk (s : ByteArray) : Prop := ReadOk s ∧ RecOk (readR s) ∧ blk (readR s) = s
instance (s : ByteArray) : Decidable (IsBlk s) := by unfold IsBlk; infer_instance
theorem str_iff (a b : ByteArray) : (a.toList = b.toList) ↔ a = b := by
 constructor
 ·intro e
  rw [ByteArray.toList_eq, ByteArray.toList_eq] at e;have := congrArg bs e;rwa [bs_of, bs_of] at this
 ·rintro rfl; rfl
theorem str_beq (a b : ByteArray) : (a.toList == b.toList) = decide (a = b) := by rw [Bool.eq_iff_iff]; simp [str_iff]
open Go.RowKit
def putIntOk (len : Nat) (a z n : Int) : Bool := decide (0 ≤ n) && putOk len a z n.toNat
def putIntV (s : ByteArray) (a z n : Int) : ByteArray := if 0 ≤ n then putV s a z n.toNat else ⟨#[]⟩
theorem rputInt_any (s : ByteArray) (hs : s.size ≤ maxLen) (a z n : Int) (hn : n ≤ 9223372036854775807) (w : World) :
 Calls Tryz.prog 111 #[.string s, .int .i64 a, .int .i64 z, .int .i64 n] w fun e w' => e = .returned (.tuple #[.string (putIntV s a z n), .bool (putIntOk s.size a z n)]) ∧ Below w.heap.size w w' := by
 by_cases h0 : 0 ≤ n
 ·obtain ⟨m, rfl⟩ := Int.eq_ofNat_of_zero_le h0
  have e1 : putIntV s a z m = putV s a z m := by unfold putIntV; rw [if_pos h0]; simp
  have e2 : putIntOk s.size a z m = putOk s.size a z m := by unfold putIntOk; rw [decide_eq_true h0]; simp
  rw [e1, e2];have HV := Lib.hid (rput_any s hs a z m (by omega));clear e1 e2
  go_enter Tryz.func111, Tryz.ntmps111
  go_wp2_with (go_at_call 137; refine (HV.out _).mono ?_; rintro e w' ⟨rfl, hb⟩)
  go_ret2
  exact ⟨rfl, hb⟩
 ·have e1 : putIntV s a z n = ⟨#[]⟩ := by unfold putIntV; rw [if_neg h0]
  have e2 : putIntOk s.size a z n = false := by unfold putIntOk; rw [decide_eq_false h0]; rfl
  rw [e1, e2];clear e1 e2
  go_enter Tryz.func111, Tryz.ntmps111
  go_wp2
  go_ret2
  exact ⟨rfl, Below.refl _ _⟩
end Go.Proofs.YtknefoemgifbfaaGreat
