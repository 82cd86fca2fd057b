/- An inode, as numbers and bytes: no program is named here. -/
import Derived.Test.YtfepjjjoikcljaaKMath
namespace Go.Proofs.Ytfepjjjoikcljaa
set_option linter.unusedVariables false

structure Ent where
  log : Int
  phys : Int
  len : Int
structure Ino where
  kind : Int
  pinned : Bool
  links : Int
  size : Int
  depth : Int
  root : List Ent
theorem Ent.ext' {a b : Ent} (h1 : a.log = b.log) (h2 : a.phys = b.phys) (h3 : a.len = b.len) : a = b := by cases a; cases b; simp_all
theorem Ino.ext' {a b : Ino} (h1 : a.kind = b.kind) (h2 : a.pinned = b.pinned) (h3 : a.links = b.links) (h4 : a.size = b.size) (h5 : a.depth = b.depth) (h6 : a.root = b.root) : a = b := by cases a; cases b; simp_all
instance : Inhabited Ent := ⟨⟨0, 0, 0⟩⟩
instance : DecidableEq Ent := fun a b => decidable_of_iff (a.log = b.log ∧ a.phys = b.phys ∧ a.len = b.len) ⟨fun h => Ent.ext' h.1 h.2.1 h.2.2, fun h => by subst h; exact ⟨rfl, rfl, rfl⟩⟩
instance : DecidableEq Ino := fun a b => decidable_of_iff (a.kind = b.kind ∧ a.pinned = b.pinned ∧ a.links = b.links ∧ a.size = b.size ∧ a.depth = b.depth ∧ a.root = b.root)
  ⟨fun h => Ino.ext' h.1 h.2.1 h.2.2.1 h.2.2.2.1 h.2.2.2.2.1 h.2.2.2.2.2, fun h => by subst h; exact ⟨rfl, rfl, rfl, rfl, rfl, rfl⟩⟩

/-! ### may it be? -/
def EntOk (leaf : Bool) (e : Ent) : Prop :=
  if leaf then 1 ≤ e.len ∧ 0 ≤ e.log ∧ e.log + e.len ≤ 2048 ∧ 1 ≤ e.phys ∧ e.phys + e.len ≤ 4096
  else e.len = 0 ∧ 0 ≤ e.log ∧ e.log ≤ 2047 ∧ 1 ≤ e.phys ∧ e.phys ≤ 4095
instance (leaf : Bool) (e : Ent) : Decidable (EntOk leaf e) := by unfold EntOk; infer_instance
def After (p e : Ent) : Prop := p.log < e.log ∧ p.log + p.len ≤ e.log
instance (p e : Ent) : Decidable (After p e) := by unfold After; infer_instance
def eat (l : List Ent) (i : Nat) : Ent := (l[i]?).getD ⟨0, 0, 0⟩
theorem eat_eq {l : List Ent} {i : Nat} (h : i < l.length) : eat l i = l[i] := by unfold eat; rw [List.getElem?_eq_getElem h]; rfl
/-- the first k entries may be, in their order -/
def RowTo (leaf : Bool) (l : List Ent) (k : Nat) : Prop := ∀ i, i < k → EntOk leaf (eat l i) ∧ (0 < i → After (eat l (i - 1)) (eat l i))
instance (leaf : Bool) (l : List Ent) (k : Nat) : Decidable (RowTo leaf l k) := by unfold RowTo; infer_instance
abbrev RowOk (leaf : Bool) (l : List Ent) : Prop := RowTo leaf l l.length
theorem rowTo_zero (leaf : Bool) (l : List Ent) : RowTo leaf l 0 := fun i hi => by omega
theorem rowTo_succ {leaf : Bool} {l : List Ent} {k : Nat} : RowTo leaf l (k + 1) ↔ RowTo leaf l k ∧ EntOk leaf (eat l k) ∧ (0 < k → After (eat l (k - 1)) (eat l k)) := by
  constructor
  · intro h
    exact ⟨fun i hi => h i (by omega), h k (by omega)⟩
  · rintro ⟨h, h2⟩ i hi
    by_cases e : i = k
    · subst e; exact h2
    · exact h i (by omega)
theorem rowTo_mono {leaf : Bool} {l : List Ent} {i k : Nat} (h : RowTo leaf l k) (hi : i ≤ k) : RowTo leaf l i := fun j hj => h j (by omega)
theorem rowTo_congr {leaf : Bool} {l m : List Ent} {k : Nat} (h : ∀ i, i < k → eat l i = eat m i) : RowTo leaf l k ↔ RowTo leaf m k := by
  unfold RowTo
  constructor
  · intro g i hi
    have := g i hi
    rw [h i hi] at this
    refine ⟨this.1, fun h0 => ?_⟩
    have h2 := this.2 h0
    rwa [h (i - 1) (by omega)] at h2
  · intro g i hi
    have := g i hi
    rw [← h i hi] at this
    refine ⟨this.1, fun h0 => ?_⟩
    have h2 := this.2 h0
    rwa [← h (i - 1) (by omega)] at h2
theorem eat_append_left {a b : List Ent} {i : Nat} (h : i < a.length) : eat (a ++ b) i = eat a i := by unfold eat; rw [List.getElem?_append_left h]
theorem eat_append_at (a : List Ent) (e : Ent) : eat (a ++ [e]) a.length = e := by unfold eat; rw [List.getElem?_append_right (Nat.le_refl _)]; simp
theorem row_snoc {leaf : Bool} {a : List Ent} {e : Ent} : RowOk leaf (a ++ [e]) ↔ RowOk leaf a ∧ EntOk leaf e ∧ (0 < a.length → After (eat a (a.length - 1)) e) := by
  unfold RowOk
  rw [List.length_append, List.length_singleton, rowTo_succ, eat_append_at, rowTo_congr (l := a ++ [e]) (m := a) fun i hi => eat_append_left hi]
  by_cases h : 0 < a.length
  · rw [eat_append_left (show a.length - 1 < a.length by omega)]
  · simp [h]

def Free (x : Ino) : Prop := x.kind = 0 ∧ x.pinned = false ∧ x.links = 0 ∧ x.size = 0 ∧ x.depth = 0 ∧ x.root = []
instance (x : Ino) : Decidable (Free x) := by unfold Free; infer_instance
def Full (x : Ino) : Prop :=
  (x.kind = 1 ∨ x.kind = 2) ∧ (0 ≤ x.links ∧ x.links ≤ 100) ∧ (0 ≤ x.size ∧ x.size ≤ 262144) ∧ (0 ≤ x.depth ∧ x.depth ≤ 4) ∧ x.root.length ≤ 4 ∧ RowOk (decide (x.depth = 0)) x.root ∧ (x.depth = 0 ∨ 0 < x.root.length)
instance (x : Ino) : Decidable (Full x) := by unfold Full; infer_instance
def InoOk (x : Ino) : Prop := Free x ∨ Full x
instance (x : Ino) : Decidable (InoOk x) := by unfold InoOk; infer_instance
theorem ok_kind0 {x : Ino} (h : x.kind = 0) : InoOk x ↔ Free x := by
  unfold InoOk
  constructor
  · rintro (k | k)
    · exact k
    · exfalso; have := k.1; omega
  · exact .inl
theorem ok_kindN {x : Ino} (h : x.kind ≠ 0) : InoOk x ↔ Full x := by
  unfold InoOk
  constructor
  · rintro (k | k)
    · exact absurd k.1 h
    · exact k
  · exact .inr

/-! ### its bytes -/
def pinB (b : Bool) : Nat := if b then 1 else 0
def headI (x : Ino) : List UInt8 := leB 1 x.kind.toNat ++ (leB 1 (pinB x.pinned) ++ (leB 2 x.links.toNat ++ (leB 8 x.size.toNat ++ (leB 1 x.depth.toNat ++ leB 1 x.root.length))))
def entB (e : Ent) : List UInt8 := leB 4 e.log.toNat ++ (leB 4 e.phys.toNat ++ leB 4 e.len.toNat)
def entsB (l : List Ent) : List UInt8 := l.flatMap entB
def inoL (x : Ino) : List UInt8 := headI x ++ (entsB x.root ++ List.replicate (50 - 12 * x.root.length) 0)
def ino (x : Ino) : ByteArray := bs (inoL x)
theorem headI_length (x : Ino) : (headI x).length = 14 := by unfold headI; simp [leB_length]
theorem entB_length (e : Ent) : (entB e).length = 12 := by unfold entB; simp [leB_length]
theorem entsB_length (l : List Ent) : (entsB l).length = 12 * l.length := by
  induction l with
  | nil => rfl
  | cons x l ih =>
    show (entB x ++ entsB l).length = _
    rw [List.length_append, entB_length, ih, List.length_cons]; omega
theorem entsB_append (a b : List Ent) : entsB (a ++ b) = entsB a ++ entsB b := by unfold entsB; rw [List.flatMap_append]
theorem entsB_cons (x : Ent) (b : List Ent) : entsB (x :: b) = entB x ++ entsB b := rfl
theorem entsB_snoc (a : List Ent) (x : Ent) : entsB (a ++ [x]) = entsB a ++ entB x := by rw [entsB_append, entsB_cons]; simp [entsB]
theorem ok_short {x : Ino} (h : InoOk x) : x.root.length ≤ 4 := by
  rcases h with h | h
  · rw [h.2.2.2.2.2]; simp
  · exact h.2.2.2.2.1
theorem inoL_length {x : Ino} (h : x.root.length ≤ 4) : (inoL x).length = 64 := by
  unfold inoL; rw [List.length_append, List.length_append, headI_length, entsB_length, List.length_replicate]; omega
theorem ino_size {x : Ino} (h : x.root.length ≤ 4) : (ino x).size = 64 := by unfold ino; rw [bs_size, inoL_length h]
theorem ino_list (x : Ino) : (ino x).data.toList = inoL x := bs_list _

/-! ### what bytes say -/
def ubyte (s : ByteArray) (a z : Nat) : Int := (leN (fieldAt s a z) : Int)
def entOf (s : ByteArray) (i : Nat) : Ent := ⟨ubyte s (14 + 12 * i) 4, ubyte s (18 + 12 * i) 4, ubyte s (22 + 12 * i) 4⟩
def entsOf (s : ByteArray) (n : Nat) : List Ent := (List.range n).map (entOf s)
theorem entsOf_length (s : ByteArray) (n : Nat) : (entsOf s n).length = n := by unfold entsOf; simp
theorem entsOf_succ (s : ByteArray) (n : Nat) : entsOf s (n + 1) = entsOf s n ++ [entOf s n] := by unfold entsOf; rw [List.range_succ, List.map_append]; rfl
def readI (s : ByteArray) : Ino :=
  { kind := ubyte s 0 1, pinned := decide (ubyte s 1 1 = 1), links := ubyte s 2 2, size := ubyte s 4 8, depth := ubyte s 12 1, root := entsOf s (leN (fieldAt s 13 1)) }
theorem ino_field {x : Ino} {p m q : List UInt8} {a z : Nat} (h : inoL x = p ++ (m ++ q)) (ha : p.length = a) (hz : m.length = z) : fieldAt (ino x) a z = m := field_eq ((ino_list x).trans h) ha hz
theorem ubyte_of {s : ByteArray} {a z n : Nat} (h : fieldAt s a z = leB z n) (hn : n < 256 ^ z) : ubyte s a z = (n : Int) := by
  unfold ubyte; rw [h, leN_leB, Nat.mod_eq_of_lt hn]
theorem ok_nums {x : Ino} (h : InoOk x) : (0 ≤ x.kind ∧ x.kind ≤ 2) ∧ (0 ≤ x.links ∧ x.links ≤ 100) ∧ (0 ≤ x.size ∧ x.size ≤ 262144) ∧ (0 ≤ x.depth ∧ x.depth ≤ 4) := by
  rcases h with h | h
  · obtain ⟨h1, h2, h3, h4, h5, h6⟩ := h; omega
  · obtain ⟨h1, h2, h3, h4, h5⟩ := h; omega
theorem ok_ent {x : Ino} (h : InoOk x) {i : Nat} (hi : i < x.root.length) : EntOk (decide (x.depth = 0)) (eat x.root i) := by
  rcases h with h | h
  · rw [h.2.2.2.2.2] at hi; simp at hi
  · exact (h.2.2.2.2.2.1 i hi).1
theorem entOk_low {leaf : Bool} {e : Ent} (h : EntOk leaf e) : (0 ≤ e.log ∧ e.log ≤ 2048) ∧ (0 ≤ e.phys ∧ e.phys ≤ 4096) ∧ (0 ≤ e.len ∧ e.len ≤ 4096) := by
  unfold EntOk at h
  cases leaf
  · simp at h; omega
  · simp at h; omega
theorem inoL_head (x : Ino) (q : List UInt8) : inoL x = leB 1 x.kind.toNat ++ (leB 1 (pinB x.pinned) ++ (leB 2 x.links.toNat ++ (leB 8 x.size.toNat ++ (leB 1 x.depth.toNat ++ (leB 1 x.root.length ++ (entsB x.root ++ List.replicate (50 - 12 * x.root.length) 0)))))) := by
  unfold inoL headI; simp
theorem ino_kind {x : Ino} (h : InoOk x) : ubyte (ino x) 0 1 = x.kind := by
  have := ok_nums h
  have e : fieldAt (ino x) 0 1 = leB 1 x.kind.toNat := ino_field (p := []) (inoL_head x []) rfl (leB_length _ _)
  rw [ubyte_of e (by omega)]; omega
theorem ino_pin (x : Ino) : ubyte (ino x) 1 1 = (pinB x.pinned : Int) := by
  refine ubyte_of (ino_field (p := leB 1 x.kind.toNat) (q := leB 2 x.links.toNat ++ (leB 8 x.size.toNat ++ (leB 1 x.depth.toNat ++ (leB 1 x.root.length ++ (entsB x.root ++ List.replicate (50 - 12 * x.root.length) 0))))) ?_ (by simp [leB_length]) (leB_length _ _)) (by unfold pinB; split <;> decide)
  exact inoL_head x []
theorem ino_links {x : Ino} (h : InoOk x) : ubyte (ino x) 2 2 = x.links := by
  have := ok_nums h
  rw [ubyte_of (n := x.links.toNat) (ino_field (p := leB 1 x.kind.toNat ++ leB 1 (pinB x.pinned)) (q := leB 8 x.size.toNat ++ (leB 1 x.depth.toNat ++ (leB 1 x.root.length ++ (entsB x.root ++ List.replicate (50 - 12 * x.root.length) 0)))) (by rw [inoL_head x []]; simp) (by simp [leB_length]) (leB_length _ _)) (by omega)]; omega
theorem ino_sizeN {x : Ino} (h : InoOk x) : ubyte (ino x) 4 8 = x.size := by
  have := ok_nums h
  rw [ubyte_of (n := x.size.toNat) (ino_field (p := leB 1 x.kind.toNat ++ (leB 1 (pinB x.pinned) ++ leB 2 x.links.toNat)) (q := leB 1 x.depth.toNat ++ (leB 1 x.root.length ++ (entsB x.root ++ List.replicate (50 - 12 * x.root.length) 0))) (by rw [inoL_head x []]; simp) (by simp [leB_length]) (leB_length _ _)) (by omega)]; omega
theorem ino_depth {x : Ino} (h : InoOk x) : ubyte (ino x) 12 1 = x.depth := by
  have := ok_nums h
  rw [ubyte_of (n := x.depth.toNat) (ino_field (p := leB 1 x.kind.toNat ++ (leB 1 (pinB x.pinned) ++ (leB 2 x.links.toNat ++ leB 8 x.size.toNat))) (q := leB 1 x.root.length ++ (entsB x.root ++ List.replicate (50 - 12 * x.root.length) 0)) (by rw [inoL_head x []]; simp) (by simp [leB_length]) (leB_length _ _)) (by omega)]; omega
theorem ino_count {x : Ino} (h : InoOk x) : leN (fieldAt (ino x) 13 1) = x.root.length := by
  have h4 := ok_short h
  rw [ino_field (x := x) (p := leB 1 x.kind.toNat ++ (leB 1 (pinB x.pinned) ++ (leB 2 x.links.toNat ++ (leB 8 x.size.toNat ++ leB 1 x.depth.toNat)))) (m := leB 1 x.root.length) (q := entsB x.root ++ List.replicate (50 - 12 * x.root.length) 0) (by rw [inoL_head x []]; simp) (by simp [leB_length]) (leB_length _ _), leN_leB]
  omega
theorem ino_split (x : Ino) {i : Nat} (hi : i < x.root.length) : inoL x = (headI x ++ entsB (x.root.take i)) ++ (entB (eat x.root i) ++ (entsB (x.root.drop (i + 1)) ++ List.replicate (50 - 12 * x.root.length) 0)) := by
  have e : x.root = x.root.take i ++ x.root[i] :: x.root.drop (i + 1) := by rw [← List.drop_eq_getElem_cons hi, List.take_append_drop]
  have e2 : entsB x.root = entsB (x.root.take i) ++ (entB (eat x.root i) ++ entsB (x.root.drop (i + 1))) := by
    rw [eat_eq hi, ← entsB_cons, ← entsB_append, ← e]
  unfold inoL; rw [e2]; simp
theorem ino_pre (x : Ino) {i : Nat} (hi : i < x.root.length) : (headI x ++ entsB (x.root.take i)).length = 14 + 12 * i := by
  rw [List.length_append, headI_length, entsB_length, List.length_take, Nat.min_eq_left (by omega)]
theorem ino_ent {x : Ino} (h : InoOk x) {i : Nat} (hi : i < x.root.length) : entOf (ino x) i = eat x.root i := by
  have hl := entOk_low (ok_ent h hi)
  have e := ino_split x hi
  have hp := ino_pre x hi
  generalize headI x ++ entsB (x.root.take i) = P at *
  generalize entsB (x.root.drop (i + 1)) ++ List.replicate (50 - 12 * x.root.length) 0 = Q at *
  generalize eat x.root i = y at *
  refine Ent.ext' ?_ ?_ ?_
  · show ubyte _ _ _ = _
    rw [ubyte_of (n := y.log.toNat) (ino_field (p := P) (q := leB 4 y.phys.toNat ++ (leB 4 y.len.toNat ++ Q)) (by rw [e]; unfold entB; simp) hp (leB_length _ _)) (by omega)]; omega
  · show ubyte _ _ _ = _
    rw [ubyte_of (n := y.phys.toNat) (ino_field (p := P ++ leB 4 y.log.toNat) (q := leB 4 y.len.toNat ++ Q) (by rw [e]; unfold entB; simp) (by rw [List.length_append, hp, leB_length]; omega) (leB_length _ _)) (by omega)]; omega
  · show ubyte _ _ _ = _
    rw [ubyte_of (n := y.len.toNat) (ino_field (p := P ++ (leB 4 y.log.toNat ++ leB 4 y.phys.toNat)) (q := Q) (by rw [e]; unfold entB; simp) (by rw [List.length_append, List.length_append, hp, leB_length, leB_length]; omega) (leB_length _ _)) (by omega)]; omega
theorem ino_ents {x : Ino} (h : InoOk x) : entsOf (ino x) x.root.length = x.root := by
  apply List.ext_getElem?
  intro i
  unfold entsOf
  rw [List.getElem?_map]
  by_cases hi : i < x.root.length
  · rw [List.getElem?_range hi, List.getElem?_eq_getElem hi]
    show some (entOf (ino x) i) = _
    rw [ino_ent h hi, eat_eq hi]
  · rw [List.getElem?_eq_none (by rw [List.length_range]; omega), List.getElem?_eq_none (by omega)]; rfl
theorem read_ino {x : Ino} (h : InoOk x) : readI (ino x) = x := by
  refine Ino.ext' (ino_kind h) ?_ (ino_links h) (ino_sizeN h) (ino_depth h) ?_
  · show decide (ubyte (ino x) 1 1 = 1) = _
    rw [ino_pin]; cases x.pinned <;> rfl
  · show entsOf (ino x) (leN (fieldAt (ino x) 13 1)) = _
    rw [ino_count h, ino_ents h]
/-- is it the bytes of an inode that may be? (it is readI's) -/
def IsIno (b : ByteArray) : Prop := InoOk (readI b) ∧ ino (readI b) = b
instance (b : ByteArray) : Decidable (IsIno b) := by unfold IsIno; infer_instance
theorem isIno_of {x : Ino} (h : InoOk x) : IsIno (ino x) := ⟨by rw [read_ino h]; exact h, by rw [read_ino h]⟩
theorem isIno_size {b : ByteArray} (h : IsIno b) : b.size = 64 := by rw [← h.2]; exact ino_size (ok_short h.1)
theorem ino_inj {x y : Ino} (h : InoOk x) (hy : InoOk y) (e : ino x = ino y) : x = y := by rw [← read_ino h, e, read_ino hy]
/-- whoever reads an inode out of a text, and finds the text again when it is encoded, has read this one -/
theorem isIno_any {b : ByteArray} {x : Ino} (h : InoOk x) (e : ino x = b) : IsIno b ∧ readI b = x := by subst e; exact ⟨isIno_of h, read_ino h⟩

/-! ### the laws' sentences -/
def noI : Ino := ⟨0, false, 0, 0, 0, []⟩
theorem free_iff (x : Ino) : Free x ↔ x = noI := by
  constructor
  · rintro ⟨h1, h2, h3, h4, h5, h6⟩; exact Ino.ext' h1 h2 h3 h4 h5 h6
  · rintro rfl; exact ⟨rfl, rfl, rfl, rfl, rfl, rfl⟩
theorem noI_ok : InoOk noI := .inl ⟨rfl, rfl, rfl, rfl, rfl, rfl⟩
theorem noI_bytes : inoL noI = List.replicate 64 0 := by decide
/-- an inode of kind 0 may be just if it is the free one -/
theorem kind0_iff (x : Ino) : InoOk { x with kind := 0 } ↔ { x with kind := 0 } = noI := by rw [ok_kind0 rfl, free_iff]
theorem less_iff {x : Ino} {r : List Ent} {e : Ent} (h : Full x) (hr : x.root = r ++ [e]) : InoOk { x with root := r } ↔ (0 < r.length ∨ x.depth = 0) := by
  obtain ⟨h1, h2, h3, h4, h5, h6, h7⟩ := h
  rw [ok_kindN (by show x.kind ≠ 0; omega)]
  rw [hr] at h5 h6
  have h8 := (row_snoc.1 h6).1
  rw [List.length_append] at h5
  unfold Full
  simp only
  constructor
  · intro k; exact k.2.2.2.2.2.2.symm
  · intro k; exact ⟨h1, h2, h3, h4, by omega, h8, k.symm⟩
theorem less_links {x : Ino} (h : Full x) (n : Int) (p : Bool) : InoOk { x with links := n, pinned := p, kind := 3 - x.kind } ↔ (0 ≤ n ∧ n ≤ 100) := by
  obtain ⟨h1, h2, h3, h4, h5, h6, h7⟩ := h
  rw [ok_kindN (by show 3 - x.kind ≠ 0; omega)]
  unfold Full
  simp only
  constructor
  · intro k; exact k.2.1
  · intro k; exact ⟨by omega, k, h3, h4, h5, h6, h7⟩
theorem less_size {x : Ino} (h : Full x) (n : Int) (p : Bool) : InoOk { x with size := n, pinned := p, kind := 3 - x.kind } ↔ (0 ≤ n ∧ n ≤ 262144) := by
  obtain ⟨h1, h2, h3, h4, h5, h6, h7⟩ := h
  rw [ok_kindN (by show 3 - x.kind ≠ 0; omega)]
  unfold Full
  simp only
  constructor
  · intro k; exact k.2.2.1
  · intro k; exact ⟨by omega, h2, k, h4, h5, h6, h7⟩
theorem more_iff {x : Ino} (h : Full x) (h0 : 0 < x.root.length) {y : Ent} (ho : EntOk (decide (x.depth = 0)) y) (ha : After (eat x.root (x.root.length - 1)) y) :
    InoOk { x with root := x.root ++ [y] } ↔ x.root.length < 4 := by
  obtain ⟨h1, h2, h3, h4, h5, h6, h7⟩ := h
  rw [ok_kindN (by show x.kind ≠ 0; omega)]
  unfold Full
  simp only [List.length_append, List.length_singleton]
  constructor
  · intro k; have := k.2.2.2.2.1; omega
  · intro k; exact ⟨h1, h2, h3, h4, by omega, row_snoc.2 ⟨h6, ho, fun _ => ha⟩, .inr (by omega)⟩
theorem more_no {x : Ino} (h : Full x) (h0 : 0 < x.root.length) {y : Ent} (ha : ¬ After (eat x.root (x.root.length - 1)) y) : ¬ InoOk { x with root := x.root ++ [y] } := by
  rw [ok_kindN (by show x.kind ≠ 0; have := h.1; omega)]
  intro k
  exact ha ((row_snoc.1 k.2.2.2.2.2.1).2.2 h0)
end Go.Proofs.Ytfepjjjoikcljaa
