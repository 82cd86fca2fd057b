/- The contracts of words.Put and of the document's Put, and of their twins for ints. -/
import Derived.Test.YtgjcdjcngepleaaDoorWGet
import Derived.Laws.IdiomStrings
import Derived.Lib.Strings
import Derived.Deep.QuietTactic
import Derived.BigQuiet
namespace Go.Proofs.YtgjcdjcngepleaaDoor
open Go.RowKit

/-- the text l with the k lowest bytes of n at a -/
def putL (l : List UInt8) (a k n : Nat) : List UInt8 := l.take a ++ leB k n ++ l.drop (a + k)
def putS (s : ByteArray) (a k n : Nat) : ByteArray := ⟨(putL s.data.toList a k n).toArray⟩

theorem putL_length (l : List UInt8) (a k n : Nat) (h : a + k ≤ l.length) : (putL l a k n).length = l.length := by
  unfold putL; simp [leB_length]; omega

theorem putL_zero (l : List UInt8) (a n : Nat) : putL l a 0 n = l := by unfold putL leB; simp

theorem putL_succ (l : List UInt8) (a k n : Nat) (h : a + k < l.length) : putL l a (k + 1) n = (putL l a k n).set (a + k) (UInt8.ofNat (n / 256 ^ k)) := by
  unfold putL
  rw [leB_succ_snoc, List.set_append_right _ _ (by simp [leB_length]; omega)]
  have e : a + k - (l.take a ++ leB k n).length = 0 := by simp [leB_length]; omega
  rw [e, List.drop_eq_getElem_cons h, List.set_cons_zero]
  simp [Nat.add_assoc]

/-- what a string's bytes become in memory -/
theorem bytes_made (s : ByteArray) (w : World) : ∃ (cap lo : Nat) (C : Array Value), (convert 9 43 (.string s)).run Tryd.prog w = .ok (.slice (some ⟨w.heap.size, 0, none⟩) s.size cap) (w.alloc (.cells C 5 (lo, lo + 1))).drew ∧ s.size ≤ lo ∧ ∀ j (h : j < s.size), C[j]? = some (.int .u8 ((s.data.toList[j]'(by simpa using h)).toNat : Int)) := by
  refine ⟨_, _, _, run_bytes_of_string w 9 43 5 s Tryd.underlying9 Tryd.underlying43 Tryd.underlying5, ?_, fun j h => ?_⟩
  · unfold bytesRow; simp
  · rw [bytesRow_at s _ j h]; simp

theorem ret_pair {a b c d : Value} (h1 : a = b) (h2 : c = d) : Ending.returned (.tuple #[a, c]) = .returned (.tuple #[b, d]) := by rw [h1, h2]
theorem ret_boolW {a b : Bool} (h : a = b) : Ending.returned (.bool a) = .returned (.bool b) := by rw [h]
theorem plain_add (b o j : Nat) : (⟨b, o, none⟩ : Addr).add j = ⟨b, o + j, none⟩ := by unfold Addr.add; split <;> simp_all

/-- may n be put into z bytes at a? and the text in which it is put -/
def putOk (len : Nat) (a z : Int) (n : Nat) : Bool := fieldOk len a z && decide (n < 256 ^ z.toNat)
def putV (s : ByteArray) (a z : Int) (n : Nat) : ByteArray := if putOk s.size a z n then putS s a.toNat z.toNat n else ⟨#[]⟩

theorem putOk_yes {len : Nat} {a z : Int} {n : Nat} (h : putOk len a z n = true) : ∃ (b y : Nat), a = b ∧ z = y ∧ (y = 1 ∨ y = 2 ∨ y = 4 ∨ y = 8) ∧ b + y ≤ len ∧ n < 256 ^ y := by
  unfold putOk at h
  simp only [Bool.and_eq_true, decide_eq_true_eq] at h
  obtain ⟨b, y, rfl, rfl, hy, hb⟩ := fieldOk_yes h.1
  exact ⟨b, y, rfl, rfl, hy, hb, by simpa using h.2⟩

theorem putV_yes {s : ByteArray} {b y n : Nat} (h : putOk s.size b y n = true) : putV s b y n = putS s b y n := by
  unfold putV; rw [if_pos h]; simp
theorem putV_no {s : ByteArray} {a z : Int} {n : Nat} (h : putOk s.size a z n = false) : putV s a z n = ⟨#[]⟩ := by
  unfold putV; rw [if_neg (by simp [h])]

theorem putOk_cases {len : Nat} {a z : Int} {n : Nat} (h : putOk len a z n = false) : fieldOk len a z = false ∨ ∃ b y : Nat, a = b ∧ z = y ∧ (y = 1 ∨ y = 2 ∨ y = 4 ∨ y = 8) ∧ b + y ≤ len ∧ fieldOk len b y = true ∧ ¬ n < 256 ^ y := by
  by_cases hf : fieldOk len a z = true
  · have hf' := hf
    obtain ⟨b, y, rfl, rfl, hy, hb⟩ := fieldOk_yes hf
    refine .inr ⟨b, y, rfl, rfl, hy, hb, hf', fun k => ?_⟩
    unfold putOk at h
    rw [hf', Bool.true_and, decide_eq_false_iff_not] at h
    exact h (by simpa using k)
  · exact .inl (by simpa using hf)

/-- a byte alone, made into a text -/
theorem one_back (wr : World) (m : Nat) : (convert 43 9 (.slice (some ⟨wr.heap.size, 0, none⟩) 1 1)).run Tryd.prog (wr.alloc (.cells #[.int .u8 ((m : Int) % 256)] 5)) = .ok (.string ⟨#[UInt8.ofNat m]⟩) (wr.alloc (.cells #[.int .u8 ((m : Int) % 256)] 5)) :=
  run_convert_bytes_back (P := Tryd.prog) _ 43 9 5 ⟨wr.heap.size, 0, none⟩ 1 [UInt8.ofNat m] Tryd.underlying43 Tryd.underlying5 Tryd.underlying9 (fun j hj => by
    have : j = 0 := by simpa using hj
    subst this
    rw [plain_add]
    rw [World.cell?_alloc_mark]
    simp)

theorem putS_eq (s : ByteArray) (a k n : Nat) : s.extract 0 a ++ ⟨(leB k n).toArray⟩ ++ s.extract (a + k) s.size = putS s a k n := by
  have e : (s.data.toList.drop (a + k)).take (s.size - (a + k)) = s.data.toList.drop (a + k) := by
    apply List.take_of_length_le
    have e : s.data.toList.length = s.size := rfl
    rw [List.length_drop, e]; exact Nat.le_refl _
  rw [Lib.extract_eq, Lib.extract_eq, ByteArray.mk_append_mk, ByteArray.mk_append_mk, e, List.drop_zero, Nat.sub_zero]
  rfl

end Go.Proofs.YtgjcdjcngepleaaDoor
