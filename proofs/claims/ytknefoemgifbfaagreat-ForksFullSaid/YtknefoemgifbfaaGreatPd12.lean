import Derived.Test.YtknefoemgifbfaaGreatPd07
import Derived.Test.YtknefoemgifbfaaGreatPd10
set_option linter.unusedVariables false
set_option linter.unusedSimpArgs false
set_option linter.constructorNameAsVariable false
namespace Go.Proofs.YtknefoemgifbfaaGreat
structure Ino where
 kind : Int
 pinned : Bool
 links : Int
 size : Int
 depth : Int
 root : List Ent
theorem Ino.ext' {a b : Ino} (h1 : a.kind = b.kind) (h2 : a.pinned = b.pinned) (h3 : a.links = b.links) (h4 : a.size = b.size) (h5 : a.depth = b.depth) (h6 : a.root = b.root) : a = b := by cases a; cases b; simp_all
instance : DecidableEq Ino := fun a b => decidable_of_iff (a.kind = b.kind ∧ a.pinned = b.pinned ∧ a.links = b.links ∧ a.size = b.size ∧ a.depth = b.depth ∧ a.root = b.root)
 ⟨fun h => Ino.ext' h.1 h.2.1 h.2.2.1 h.2.2.2.1 h.2.2.2.2.1 h.2.2.2.2.2, fun h => by subst h; exact ⟨rfl, rfl, rfl, rfl, rfl, rfl⟩⟩
def Free (x : Ino) : Prop := x.kind = 0 ∧ x.pinned = false ∧ x.links = 0 ∧ x.size = 0 ∧ x.depth = 0 ∧ x.root = []
instance (x : Ino) : Decidable (Free x) := by unfold Free; infer_instance
def Full (x : Ino) : Prop :=
 (x.kind = 1 ∨ x.kind = 2) ∧ (0 ≤ x.links ∧ x.links ≤ 100) ∧ (0 ≤ x.size ∧ x.size ≤ 262144) ∧ (0 ≤ x.depth ∧ x.depth ≤ 4) ∧ x.root.length ≤ 4 ∧ RowOk (decide (x.depth = 0)) x.root ∧ (x.depth = 0 ∨ 0 < x.root.length)
instance (x : Ino) : Decidable (Full x) := by unfold Full; infer_instance
def InoOk (x : Ino) : Prop := Free x ∨ Full x
instance (x : Ino) : Decidable (InoOk x) := by unfold InoOk; infer_instance
theorem ok_kind0 {x : Ino} (h : x.kind = 0) : InoOk x ↔ Free x := by
 unfold InoOk;constructor
 ·rintro (k | k)
  ·exact k
  ·exfalso; have := k.1; omega
 ·exact .inl
theorem ok_kindN {x : Ino} (h : x.kind ≠ 0) : InoOk x ↔ Full x := by
 unfold InoOk;constructor
 ·rintro (k | k)
  ·exact absurd k.1 h
  ·exact k
 ·exact .inr
def pinB (b : Bool) : Nat := if b then 1 else 0
def headI (x : Ino) : List UInt8 := leB 1 x.kind.toNat ++ (leB 1 (pinB x.pinned) ++ (leB 2 x.links.toNat ++ (leB 8 x.size.toNat ++ (leB 1 x.depth.toNat ++ leB 1 x.root.length))))
def entB (e : Ent) : List UInt8 := leB 4 e.log.toNat ++ (leB 4 e.phys.toNat ++ leB 4 e.len.toNat)
def entsB (l : List Ent) : List UInt8 := l.flatMap entB
def inoL (x : Ino) : List UInt8 := headI x ++ (entsB x.root ++ List.replicate (50 - 12 * x.root.length) 0)
def ino (x : Ino) : ByteArray := bs (inoL x)
theorem entB_length (e : Ent) : (entB e).length = 12 := by unfold entB; simp [leB_length]
theorem entsB_length (l : List Ent) : (entsB l).length = 12 * l.length := by
 induction l with
 | nil => rfl
 | cons x l ih =>
   show (entB x ++ entsB l).length = _
   rw [List.length_append, entB_length, ih, List.length_cons]; omega
theorem entsB_cons (x : Ent) (b : List Ent) : entsB (x :: b) = entB x ++ entsB b := rfl
def ubyte (s : ByteArray) (a z : Nat) : Int := (leN (fieldAt s a z) : Int)
def entOf (s : ByteArray) (i : Nat) : Ent := ⟨ubyte s (14 + 12 * i) 4, ubyte s (18 + 12 * i) 4, ubyte s (22 + 12 * i) 4⟩
def entsOf (s : ByteArray) (n : Nat) : List Ent := (List.range n).map (entOf s)
def readI (s : ByteArray) : Ino :=
 {kind := ubyte s 0 1, pinned := decide (ubyte s 1 1 = 1), links := ubyte s 2 2, size := ubyte s 4 8, depth := ubyte s 12 1, root := entsOf s (leN (fieldAt s 13 1)) }
theorem ubyte_of {s : ByteArray} {a z n : Nat} (h : fieldAt s a z = leB z n) (hn : n < 256 ^ z) : ubyte s a z = (n : Int) := by
 unfold ubyte; rw [h, leN_leB, Nat.mod_eq_of_lt hn]
def IsIno (b : ByteArray) : Prop := InoOk (readI b) ∧ ino (readI b) = b
instance (b : ByteArray) : Decidable (IsIno b) := by unfold IsIno; infer_instance
def noI : Ino := ⟨0, false, 0, 0, 0, []⟩
end Go.Proofs.YtknefoemgifbfaaGreat
