import Derived.Test.YtknefoemgifbfaaGreatPd06
import Derived.Laws.IdiomStrings
import Derived.Lib.Strings
import Derived.Deep.QuietTactic
import Derived.BigQuiet
set_option linter.unusedVariables false
set_option linter.unusedSimpArgs false
set_option linter.constructorNameAsVariable false
namespace Go.Proofs.YtknefoemgifbfaaGreat
open Go.RowKit
def putL (l : List UInt8) (a k n : Nat) : List UInt8 := l.take a ++ leB k n ++ l.drop (a + k)
def putS (s : ByteArray) (a k n : Nat) : ByteArray := ⟨(putL s.data.toList a k n).toArray⟩
def putOk (len : Nat) (a z : Int) (n : Nat) : Bool := fieldOk len a z && decide (n < 256 ^ z.toNat)
def putV (s : ByteArray) (a z : Int) (n : Nat) : ByteArray := if putOk s.size a z n then putS s a.toNat z.toNat n else ⟨#[]⟩
structure Rec where
 kind : Int
 seq : Nat
 pos : Int
 homes : List Int
 masked : List Bool
 sum : Nat
def hat (l : List Int) (j : Nat) : Int := (l[j]?).getD 0
def prevH (l : List Int) (j : Nat) : Int := if j = 0 then -1 else hat l (j - 1)
def upAt (l : List Int) (j : Nat) : Prop := prevH l j < hat l j ∧ hat l j < 4096
def upTo (l : List Int) (i : Nat) : Prop := ∀ j, j < i → upAt l j
instance (l : List Int) (j : Nat) : Decidable (upAt l j) := by unfold upAt; infer_instance
instance (l : List Int) (i : Nat) : Decidable (upTo l i) := by unfold upTo; infer_instance
def HomesOk (l : List Int) (most : Int) : Prop := 1 ≤ (l.length : Int) ∧ (l.length : Int) ≤ most ∧ upTo l l.length
instance (l : List Int) (most : Int) : Decidable (HomesOk l most) := by unfold HomesOk; infer_instance
def Ok1 (r : Rec) : Prop := r.kind = 1 ∧ 0 ≤ r.pos ∧ r.pos ≤ 510 ∧ r.homes.length = 0 ∧ r.masked.length = 0 ∧ r.sum = 0
def Ok2 (r : Rec) : Prop := r.kind = 2 ∧ HomesOk r.homes 24 ∧ r.masked.length = r.homes.length ∧ r.pos = 0 ∧ r.sum = 0
def Ok3 (r : Rec) : Prop := r.kind = 3 ∧ HomesOk r.homes 28 ∧ r.masked.length = 0 ∧ r.pos = 0 ∧ r.sum = 0
def Ok4 (r : Rec) : Prop := r.kind = 4 ∧ r.pos = 0 ∧ r.homes.length = 0 ∧ r.masked.length = 0
def RecOk (r : Rec) : Prop := Ok1 r ∨ Ok2 r ∨ Ok3 r ∨ Ok4 r
instance (r : Rec) : Decidable (Ok1 r) := by unfold Ok1; infer_instance
instance (r : Rec) : Decidable (Ok2 r) := by unfold Ok2; infer_instance
instance (r : Rec) : Decidable (Ok3 r) := by unfold Ok3; infer_instance
instance (r : Rec) : Decidable (Ok4 r) := by unfold Ok4; infer_instance
instance (r : Rec) : Decidable (RecOk r) := by unfold RecOk; infer_instance
structure Fits (r : Rec) : Prop where
 kind : -9223372036854775808 ≤ r.kind ∧ r.kind ≤ 9223372036854775807
 seq : r.seq < 18446744073709551616
 pos : -9223372036854775808 ≤ r.pos ∧ r.pos ≤ 9223372036854775807
 homes : ∀ x ∈ r.homes, -9223372036854775808 ≤ x ∧ x ≤ 9223372036854775807
 sum : r.sum < 4294967296
def bs (l : List UInt8) : ByteArray := ⟨l.toArray⟩
theorem bs_size (l : List UInt8) : (bs l).size = l.length := by unfold bs; simp [ByteArray.size]
theorem bs_list (l : List UInt8) : (bs l).data.toList = l := by unfold bs; simp
theorem bs_of (s : ByteArray) : bs s.data.toList = s := by unfold bs; cases s; simp
def flagB (b : Bool) : UInt8 := if b then 1 else 0
def homesB (l : List Int) : List UInt8 := l.flatMap fun h => leB 2 h.toNat
def marksB (l : List Bool) : List UInt8 := l.map flagB
def fieldsB (r : Rec) : List UInt8 :=
 if r.kind = 1 then leB 2 r.pos.toNat else if r.kind = 4 then leB 4 r.sum else leB 1 r.homes.length ++ homesB r.homes ++ marksB r.masked
def magicB : List UInt8 := [71, 76, 74, 119]
def headB (r : Rec) : List UInt8 := magicB ++ leB 1 r.kind.toNat ++ leB 8 r.seq
def bodyB (r : Rec) : List UInt8 := headB r ++ fieldsB r
def blkB (r : Rec) : List UInt8 := bodyB r ++ List.replicate (128 - (bodyB r).length) 0
def blk (r : Rec) : ByteArray := bs (blkB r)
theorem field_eq {s : ByteArray} {p m q : List UInt8} {a z : Nat} (h : s.data.toList = p ++ (m ++ q)) (ha : p.length = a) (hz : m.length = z) : fieldAt s a z = m := by
 subst ha; subst hz;unfold fieldAt; rw [h]; simp
def kindOf (s : ByteArray) : Nat := leN (fieldAt s 4 1)
def countOf (s : ByteArray) : Nat := leN (fieldAt s 13 1)
def homeOf (s : ByteArray) (i : Nat) : Nat := leN (fieldAt s (14 + 2 * i) 2)
def markOf (s : ByteArray) (n i : Nat) : Nat := leN (fieldAt s (14 + 2 * n + i) 1)
def homesOf (s : ByteArray) (n : Nat) : List Int := (List.range n).map fun i => (homeOf s i : Int)
def marksOf (s : ByteArray) (n k : Nat) : List Bool := (List.range k).map fun i => decide (markOf s n i ≠ 0)
def marksOf1 (s : ByteArray) (n k : Nat) : List Bool := (List.range k).map fun i => decide (14 + 2 * n + i < 128) && decide (markOf s n i = 1)
def readR (s : ByteArray) : Rec :=
 {kind := kindOf s, seq := leN (fieldAt s 5 8), pos := if kindOf s = 1 then (leN (fieldAt s 13 2) : Int) else 0,
  homes := if kindOf s = 2 ∨ kindOf s = 3 then homesOf s (countOf s) else [], masked := if kindOf s = 2 then marksOf s (countOf s) (countOf s) else [],
  sum := if kindOf s = 4 then leN (fieldAt s 13 4) else 0 }
def readF (s : ByteArray) : Rec :=
 {kind := kindOf s, seq := leN (fieldAt s 5 8), pos := if kindOf s = 1 then (leN (fieldAt s 13 2) : Int) else 0,
  homes := if kindOf s = 2 ∨ kindOf s = 3 then homesOf s (min (countOf s) 40) else [], masked := if kindOf s = 2 then marksOf1 s (countOf s) (min (countOf s) 24) else [],
  sum := if kindOf s = 4 then leN (fieldAt s 13 4) else 0 }
def ReadOk (s : ByteArray) : Prop :=
 13 ≤ s.size ∧ (kindOf s = 1 → 15 ≤ s.size) ∧ (kindOf s = 2 → 14 ≤ s.size ∧ 14 + 3 * countOf s ≤ s.size) ∧ (kindOf s = 3 → 14 ≤ s.size ∧ 14 + 2 * countOf s ≤ s.size) ∧ (kindOf s = 4 → 17 ≤ s.size)
instance (s : ByteArray) : Decidable (ReadOk s) := by unfold ReadOk; infer_instance
def IsBlk (s : ByteArray) : Prop := ReadOk s ∧ RecOk (readR s) ∧ blk (readR s) = s
instance (s : ByteArray) : Decidable (IsBlk s) := by unfold IsBlk; infer_instance
theorem str_iff (a b : ByteArray) : (a.toList = b.toList) ↔ a = b := by
 constructor
 ·intro e
  rw [ByteArray.toList_eq, ByteArray.toList_eq] at e;have := congrArg bs e;rwa [bs_of, bs_of] at this
 ·rintro rfl; rfl
theorem str_beq (a b : ByteArray) : (a.toList == b.toList) = decide (a = b) := by rw [Bool.eq_iff_iff]; simp [str_iff]
open Go.RowKit
def putIntOk (len : Nat) (a z n : Int) : Bool := decide (0 ≤ n) && putOk len a z n.toNat
def putIntV (s : ByteArray) (a z n : Int) : ByteArray := if 0 ≤ n then putV s a z n.toNat else ⟨#[]⟩
end Go.Proofs.YtknefoemgifbfaaGreat
