/- A superblock, as numbers and bytes: no program is named here. -/
import Derived.Test.YtonfloehobcfbaaGNum
import Derived.Test.YtonfloehobcfbaaKMath
namespace Go.Proofs.Ytonfloehobcfbaa
set_option linter.unusedVariables false

structure Sup where
  blocks : Int
  log : Int
  inodes : Int
  cursor : Int
  inode : Int
  logical : Int
  from_ : Int
  to_ : Int
  len : Int
  moved : Int

theorem Sup.ext' {a b : Sup} (h1 : a.blocks = b.blocks) (h2 : a.log = b.log) (h3 : a.inodes = b.inodes) (h4 : a.cursor = b.cursor) (h5 : a.inode = b.inode) (h6 : a.logical = b.logical) (h7 : a.from_ = b.from_)
    (h8 : a.to_ = b.to_) (h9 : a.len = b.len) (h10 : a.moved = b.moved) : a = b := by
  cases a; cases b; simp_all

/-! ### may it be? -/
def Still (s : Sup) : Prop := s.inode = 0 ∧ s.logical = 0 ∧ s.from_ = 0 ∧ s.to_ = 0 ∧ s.len = 0 ∧ s.moved = 0
def Moves (s : Sup) : Prop :=
  2 ≤ s.len ∧ s.len ≤ s.blocks ∧ 1 ≤ s.moved ∧ s.moved < s.len ∧ 0 ≤ s.inode ∧ s.inode < s.inodes ∧ 0 ≤ s.logical ∧ s.logical + s.len ≤ 2048 ∧ 0 ≤ s.from_ ∧ s.from_ + s.len ≤ s.blocks ∧ 0 ≤ s.to_ ∧ s.to_ + s.len ≤ s.blocks
def SupOk (s : Sup) : Prop := okG s.blocks s.log s.inodes ∧ (0 ≤ s.cursor ∧ s.cursor ≤ s.blocks) ∧ (Still s ∨ Moves s)
instance (s : Sup) : Decidable (Still s) := by unfold Still; infer_instance
instance (s : Sup) : Decidable (Moves s) := by unfold Moves; infer_instance
instance (s : Sup) : Decidable (SupOk s) := by unfold SupOk; infer_instance
def fld (s : Sup) : List Int := [s.blocks, s.log, s.inodes, s.cursor, s.inode, s.logical, s.from_, s.to_, s.len, s.moved]
theorem fld_length (s : Sup) : (fld s).length = 10 := rfl
def fldAt (s : Sup) (i : Nat) : Int := ((fld s)[i]?).getD 0
theorem fld_inj {s t : Sup} (h : fld s = fld t) : s = t := by
  simp only [fld, List.cons.injEq, and_true] at h
  obtain ⟨h1, h2, h3, h4, h5, h6, h7, h8, h9, h10⟩ := h
  exact Sup.ext' h1 h2 h3 h4 h5 h6 h7 h8 h9 h10
theorem fldAt_all {s t : Sup} (h : ∀ i, i < 10 → fldAt s i = fldAt t i) : s = t :=
  Sup.ext' (h 0 (by omega)) (h 1 (by omega)) (h 2 (by omega)) (h 3 (by omega)) (h 4 (by omega)) (h 5 (by omega)) (h 6 (by omega)) (h 7 (by omega)) (h 8 (by omega)) (h 9 (by omega))
theorem ok_low {s : Sup} (h : SupOk s) : ∀ x ∈ fld s, 0 ≤ x ∧ x ≤ 4096 := by
  obtain ⟨⟨h1, h2, h3, h4, h5, h6, h7, h8⟩, ⟨h9, h10⟩, h⟩ := h
  intro x hx
  simp only [fld, List.mem_cons, List.not_mem_nil, or_false] at hx
  rcases h with h | h
  · obtain ⟨a1, a2, a3, a4, a5, a6⟩ := h
    rcases hx with e | e | e | e | e | e | e | e | e | e <;> subst e <;> omega
  · obtain ⟨a1, a2, a3, a4, a5, a6, a7, a8, a9, a10, a11, a12⟩ := h
    rcases hx with e | e | e | e | e | e | e | e | e | e <;> subst e <;> omega
theorem ok_at {s : Sup} (h : SupOk s) (i : Nat) (hi : i < 10) : 0 ≤ fldAt s i ∧ fldAt s i ≤ 4096 := by
  apply ok_low h
  unfold fldAt
  rw [List.getElem?_eq_getElem (by rw [fld_length]; exact hi)]
  exact List.getElem_mem _

/-! ### its block -/
def supHead : List UInt8 := [103, 108, 105, 115, 115, 97, 100, 101]
def numsB (l : List Int) : List UInt8 := l.flatMap fun x => leB 4 x.toNat
def supTail : List UInt8 := List.replicate 80 0
def supL (s : Sup) : List UInt8 := supHead ++ (numsB (fld s) ++ supTail)
def sup (s : Sup) : ByteArray := bs (supL s)
theorem numsB_length (l : List Int) : (numsB l).length = 4 * l.length := by
  induction l with
  | nil => rfl
  | cons x l ih =>
    show (leB 4 x.toNat ++ numsB l).length = _
    rw [List.length_append, leB_length, ih, List.length_cons]; omega
theorem numsB_append (a b : List Int) : numsB (a ++ b) = numsB a ++ numsB b := by unfold numsB; rw [List.flatMap_append]
theorem numsB_cons (x : Int) (b : List Int) : numsB (x :: b) = leB 4 x.toNat ++ numsB b := rfl
theorem numsB_snoc (a : List Int) (x : Int) : numsB (a ++ [x]) = numsB a ++ leB 4 x.toNat := by rw [numsB_append, numsB_cons]; simp [numsB]
theorem supL_length (s : Sup) : (supL s).length = 128 := by
  unfold supL supHead supTail; rw [List.length_append, List.length_append, numsB_length, fld_length, List.length_replicate]; rfl
theorem sup_size (s : Sup) : (sup s).size = 128 := by unfold sup; rw [bs_size, supL_length]
theorem sup_list (s : Sup) : (sup s).data.toList = supL s := bs_list _
theorem supL_split (s : Sup) (i : Nat) (hi : i < 10) : supL s = (supHead ++ numsB ((fld s).take i)) ++ (leB 4 (fldAt s i).toNat ++ (numsB ((fld s).drop (i + 1)) ++ supTail)) := by
  have hl : i < (fld s).length := by rw [fld_length]; exact hi
  have e : fld s = (fld s).take i ++ (fld s)[i] :: (fld s).drop (i + 1) := by rw [← List.drop_eq_getElem_cons hl, List.take_append_drop]
  have e1 : fldAt s i = (fld s)[i] := by unfold fldAt; rw [List.getElem?_eq_getElem hl]; rfl
  have e2 : numsB (fld s) = numsB ((fld s).take i) ++ (leB 4 (fldAt s i).toNat ++ numsB ((fld s).drop (i + 1))) := by
    rw [e1, ← numsB_cons, ← numsB_append, ← e]
  unfold supL; rw [e2]; simp
theorem pre_length (s : Sup) (i : Nat) (hi : i < 10) : (supHead ++ numsB ((fld s).take i)).length = 8 + 4 * i := by
  rw [List.length_append, numsB_length, List.length_take, fld_length, Nat.min_eq_left (by omega)]; rfl
theorem sup_field (s : Sup) (i : Nat) (hi : i < 10) : fieldAt (sup s) (8 + 4 * i) 4 = leB 4 (fldAt s i).toNat :=
  field_eq ((sup_list s).trans (supL_split s i hi)) (pre_length s i hi) (leB_length _ _)
def numAt (b : ByteArray) (i : Nat) : Int := (leN (fieldAt b (8 + 4 * i) 4) : Int)
def readS (b : ByteArray) : Sup :=
  { blocks := numAt b 0, log := numAt b 1, inodes := numAt b 2, cursor := numAt b 3, inode := numAt b 4, logical := numAt b 5, from_ := numAt b 6, to_ := numAt b 7, len := numAt b 8, moved := numAt b 9 }
theorem readS_at (b : ByteArray) (i : Nat) (hi : i < 10) : fldAt (readS b) i = numAt b i := by
  match i, hi with
  | 0, _ => rfl | 1, _ => rfl | 2, _ => rfl | 3, _ => rfl | 4, _ => rfl | 5, _ => rfl | 6, _ => rfl | 7, _ => rfl | 8, _ => rfl | 9, _ => rfl
theorem sup_num {s : Sup} (h : SupOk s) (i : Nat) (hi : i < 10) : numAt (sup s) i = fldAt s i := by
  unfold numAt
  rw [sup_field s i hi, leN_leB]
  have := ok_at h i hi
  omega
theorem read_sup {s : Sup} (h : SupOk s) : readS (sup s) = s :=
  fldAt_all fun i hi => by rw [readS_at _ i hi, sup_num h i hi]
/-- is it the block of a superblock that may be? (it is readS's) -/
def IsSup (b : ByteArray) : Prop := SupOk (readS b) ∧ sup (readS b) = b
instance (b : ByteArray) : Decidable (IsSup b) := by unfold IsSup; infer_instance
theorem isSup_of {s : Sup} (h : SupOk s) : IsSup (sup s) := ⟨by rw [read_sup h]; exact h, by rw [read_sup h]⟩
theorem isSup_size {b : ByteArray} (h : IsSup b) : b.size = 128 := by rw [← h.2]; exact sup_size _
theorem sup_inj {s t : Sup} (h : SupOk s) (ht : SupOk t) (e : sup s = sup t) : s = t := by rw [← read_sup h, e, read_sup ht]
theorem sup_same {s t : Sup} (h : SupOk s) (ht : SupOk t) : sup s = sup t ↔ s = t := ⟨sup_inj h ht, fun e => by rw [e]⟩
theorem field_same {s t : Sup} (h : SupOk s) (ht : SupOk t) (i : Nat) (hi : i < 10) : fieldAt (sup s) (8 + 4 * i) 4 = fieldAt (sup t) (8 + 4 * i) 4 ↔ fldAt s i = fldAt t i := by
  constructor
  · intro e
    rw [← sup_num h i hi, ← sup_num ht i hi]; unfold numAt; rw [e]
  · intro e
    rw [sup_field s i hi, sup_field t i hi, e]
theorem sup_head (s : Sup) : fieldAt (sup s) 0 8 = supHead := by
  unfold fieldAt; rw [sup_list]; rfl
theorem sup_rest (s : Sup) : fieldAt (sup s) 48 80 = supTail := by
  have e : supL s = (supHead ++ numsB (fld s)) ++ (supTail ++ []) := by unfold supL; simp
  exact field_eq ((sup_list s).trans e) (by rw [List.length_append, numsB_length, fld_length]; rfl) (by unfold supTail; rw [List.length_replicate])
theorem supL_const (s t : Sup) (i : Nat) (hi : i < 8 ∨ 48 ≤ i) : (supL s)[i]? = (supL t)[i]? := by
  unfold supL
  rcases hi with hi | hi
  · rw [List.getElem?_append_left (by exact hi), List.getElem?_append_left (by exact hi)]
  · have hh : supHead.length = 8 := rfl
    have h1 : (numsB (fld s)).length = 40 := by rw [numsB_length, fld_length]
    have h2 : (numsB (fld t)).length = 40 := by rw [numsB_length, fld_length]
    rw [List.getElem?_append_right (by omega), List.getElem?_append_right (by omega), List.getElem?_append_right (by omega), List.getElem?_append_right (by omega), h1, h2]
/-- no superblock's block is a record's -/
theorem sup_ne_blk (s : Sup) (r : Rec) : sup s ≠ blk r := by
  intro e
  have e1 := congrArg (fun b : ByteArray => b.data.toList) e
  simp only [sup_list, blk_list] at e1
  have e2 := congrArg (fun l : List UInt8 => l.head?) e1
  simp [supL, supHead, magicB] at e2
theorem sup_isBlk (s : Sup) : ¬ IsBlk (sup s) := fun h => sup_ne_blk s _ h.2.2.symm

/-! ### the laws' sentences -/
theorem may_iff (b l i c : Int) : SupOk ⟨b, l, i, c, 0, 0, 0, 0, 0, 0⟩ ↔ okG b l i ∧ 0 ≤ c ∧ c ≤ b := by
  unfold SupOk Still; simp
theorem slide_iff (b l i x0 x1 x2 x3 n x5 : Int) : SupOk ⟨b, l, i, 0, x0, x1, x2, x3, n, x5⟩ ↔
    okG b l i ∧ ((x0 = 0 ∧ x1 = 0 ∧ x2 = 0 ∧ x3 = 0 ∧ n = 0 ∧ x5 = 0) ∨
      (2 ≤ n ∧ n ≤ 4096 ∧ 0 < x5 ∧ x5 < n ∧ 0 ≤ x0 ∧ x0 < i ∧ 0 ≤ x1 ∧ x1 ≤ 2048 - n ∧ 0 ≤ x2 ∧ x2 ≤ b - n ∧ 0 ≤ x3 ∧ x3 ≤ b - n)) := by
  unfold SupOk Still Moves
  constructor
  · rintro ⟨h, _, h2⟩
    have := h.2.1
    refine ⟨h, ?_⟩
    rcases h2 with h2 | h2
    · exact .inl h2
    · right; simp only at h2; omega
  · rintro ⟨h, h2⟩
    have := h.1
    refine ⟨h, by simp only; omega, ?_⟩
    rcases h2 with h2 | h2
    · exact .inl h2
    · right; simp only; omega
/-- a byte turned -/
def spoil (s : Sup) (i : Nat) (c : UInt8) : ByteArray := bs ((supL s).set i c)
theorem spoil_same (s : Sup) (i : Nat) (c : UInt8) (h : (supL s)[i]? = some c) : spoil s i c = sup s := by
  unfold spoil sup
  congr 1
  apply List.ext_getElem?
  intro j
  rw [List.getElem?_set]
  by_cases e : i = j
  · subst e
    have : i < (supL s).length := by
      apply Classical.byContradiction; intro hc
      rw [List.getElem?_eq_none (by omega)] at h; cases h
    rw [if_pos rfl, if_pos this, h]
  · rw [if_neg e]
theorem spoil_ne {s : Sup} {i : Nat} {c : UInt8} (hi : i < 128) (h : (supL s)[i]? ≠ some c) : spoil s i c ≠ sup s := by
  intro e
  apply h
  have e1 := bs_inj e
  rw [← e1, List.getElem?_set, if_pos rfl, if_pos (by rw [supL_length]; exact hi)]
theorem spoil_other {s : Sup} {i : Nat} {c : UInt8} (hi : i < 128) (h : (supL s)[i]? ≠ some c) (hk : IsSup (spoil s i c)) : readS (spoil s i c) ≠ s := by
  intro e
  apply spoil_ne hi h
  rw [← hk.2, e]
theorem spoil_none {s : Sup} {i : Nat} {c : UInt8} (hi : i < 128) (ho : i < 8 ∨ 48 ≤ i) (h : (supL s)[i]? ≠ some c) : ¬ IsSup (spoil s i c) := by
  intro hk
  have e1 : supL (readS (spoil s i c)) = (supL s).set i c := bs_inj hk.2
  have e2 := supL_const (readS (spoil s i c)) s i ho
  apply h
  rw [← e2, e1, List.getElem?_set, if_pos rfl, if_pos (by rw [supL_length]; exact hi)]
/-- what the document's Decode reads of a block that is too short for a number is 0: that block is none either way -/
theorem size_none {b : ByteArray} (h : b.size ≠ 128) (t : Sup) : sup t ≠ b := fun e => h (by rw [← e]; exact sup_size t)
/-- a string's stretch is a field -/
theorem extract_field (s : ByteArray) (a z : Nat) : (s.extract a (a + z)).data.toList = fieldAt s a z := by
  unfold fieldAt
  simp [ByteArray.data_extract, List.extract_eq_take_drop]
theorem extract_same (s t : ByteArray) (a z : Nat) : s.extract a (a + z) = t.extract a (a + z) ↔ fieldAt s a z = fieldAt t a z := by
  rw [← extract_field, ← extract_field]
  constructor
  · intro e; rw [e]
  · intro e
    have := congrArg bs e
    rwa [bs_of, bs_of] at this
end Go.Proofs.Ytonfloehobcfbaa
