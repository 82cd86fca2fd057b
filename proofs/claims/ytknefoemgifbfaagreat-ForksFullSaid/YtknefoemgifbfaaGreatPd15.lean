import Derived.Test.YtknefoemgifbfaaGreatPd12
import Derived.Test.YtknefoemgifbfaaGreatPd14
set_option linter.unusedVariables false
set_option linter.unusedSimpArgs false
set_option linter.constructorNameAsVariable false
namespace Go.Proofs.YtknefoemgifbfaaGreat
def NodeOk (l : List Ent) (leaf : Bool) : Prop := 1 ≤ l.length ∧ l.length ≤ 10 ∧ RowOk leaf l
instance (l : List Ent) (leaf : Bool) : Decidable (NodeOk l leaf) := by unfold NodeOk; infer_instance
def leafB (leaf : Bool) : UInt8 := if leaf then 1 else 0
def nodeL (l : List Ent) (leaf : Bool) : List UInt8 := [70, leafB leaf, UInt8.ofNat l.length] ++ (entsB l ++ List.replicate (125 - 12 * l.length) 0)
def nodeB (l : List Ent) (leaf : Bool) : ByteArray := bs (nodeL l leaf)
theorem nodeL_length {l : List Ent} (leaf : Bool) (h : l.length ≤ 10) : (nodeL l leaf).length = 128 := by
 unfold nodeL; rw [List.length_append, List.length_append, entsB_length, List.length_replicate]; show 3 + _ = _; omega
theorem nodeB_size {l : List Ent} (leaf : Bool) (h : l.length ≤ 10) : (nodeB l leaf).size = 128 := by unfold nodeB; rw [bs_size, nodeL_length leaf h]
theorem nodeB_list (l : List Ent) (leaf : Bool) : (nodeB l leaf).data.toList = nodeL l leaf := bs_list _
def byteN (s : ByteArray) (i : Nat) : Nat := ((s.data.toList[i]?).getD 0).toNat
def entN (s : ByteArray) (i : Nat) : Ent := ⟨ubyte s (3 + 12 * i) 4, ubyte s (7 + 12 * i) 4, ubyte s (11 + 12 * i) 4⟩
def entsN (s : ByteArray) (n : Nat) : List Ent := (List.range n).map (entN s)
theorem entsN_length (s : ByteArray) (n : Nat) : (entsN s n).length = n := by unfold entsN; simp
theorem entsN_succ (s : ByteArray) (n : Nat) : entsN s (n + 1) = entsN s n ++ [entN s n] := by unfold entsN; rw [List.range_succ, List.map_append]; rfl
def leafN (s : ByteArray) : Bool := byteN s 1 == 1
def IsNode (s : ByteArray) : Prop := s.size = 128 ∧ byteN s 2 ≤ 10 ∧ NodeOk (entsN s (byteN s 2)) (leafN s) ∧ nodeL (entsN s (byteN s 2)) (leafN s) = s.data.toList
instance (s : ByteArray) : Decidable (IsNode s) := by unfold IsNode; infer_instance
def decN (s : ByteArray) : Option (List Ent × Bool) := if IsNode s then some (entsN s (byteN s 2), leafN s) else none
theorem isNode_eq {s : ByteArray} (h : IsNode s) : nodeB (entsN s (byteN s 2)) (leafN s) = s := by unfold nodeB; rw [h.2.2.2, bs_of]
theorem decN_some {s : ByteArray} {l : List Ent} {leaf : Bool} (h : decN s = some (l, leaf)) : NodeOk l leaf ∧ nodeB l leaf = s := by
 unfold decN at h
 split at h
 ·rename_i k
  injection h with h
  injection h with h1 h2
  subst h1 h2;exact ⟨k.2.2.1, isNode_eq k⟩
 ·cases h
theorem ent_small {leaf : Bool} {l : List Ent} (h : RowOk leaf l) {i : Nat} (hi : i < l.length) : (0 ≤ (eat l i).log ∧ (eat l i).log ≤ 4096) ∧ (0 ≤ (eat l i).phys ∧ (eat l i).phys ≤ 4096) ∧ (0 ≤ (eat l i).len ∧ (eat l i).len ≤ 4096) := by
 have := (h i hi).1;unfold EntOk at this
 cases leaf <;> simp at this <;> omega
theorem entsB_at : ∀ (l : List Ent) (i : Nat), i < l.length → ∃ p q : List UInt8, entsB l = p ++ (entB (eat l i) ++ q) ∧ p.length = 12 * i
 | [], i, h => by simp at h
 | x :: l, 0, h => ⟨[], entsB l, rfl, rfl⟩
 | x :: l, i + 1, h => by
   obtain ⟨p, q, e, hp⟩ := entsB_at l i (by simpa using h);refine ⟨entB x ++ p, q, ?_, by rw [List.length_append, entB_length, hp]; omega⟩;rw [entsB_cons, e, show eat (x :: l) (i + 1) = eat l i from by unfold eat; simp];simp only [List.append_assoc]
theorem entN_nodeB {l : List Ent} {leaf : Bool} (h : NodeOk l leaf) {i : Nat} (hi : i < l.length) : entN (nodeB l leaf) i = eat l i := by
 obtain ⟨h1, h2, h3⟩ := ent_small h.2.2 hi;obtain ⟨p, q, e, hp⟩ := entsB_at l i hi
 have e0 : nodeL l leaf = ([70, leafB leaf, UInt8.ofNat l.length] ++ p) ++ (leB 4 (eat l i).log.toNat ++ (leB 4 (eat l i).phys.toNat ++ (leB 4 (eat l i).len.toNat ++ (q ++ List.replicate (125 - 12 * l.length) 0)))) := by
  unfold nodeL; rw [e]; unfold entB; simp only [List.append_assoc]
 have hl : ([70, leafB leaf, UInt8.ofNat l.length] ++ p).length = 3 + 12 * i := by rw [List.length_append, hp]; rfl
 have f1 : fieldAt (nodeB l leaf) (3 + 12 * i) 4 = leB 4 (eat l i).log.toNat := field_eq ((nodeB_list l leaf).trans e0) hl (leB_length _ _);have f2 : fieldAt (nodeB l leaf) (7 + 12 * i) 4 = leB 4 (eat l i).phys.toNat := field_eq (p := ([70, leafB leaf, UInt8.ofNat l.length] ++ p) ++ leB 4 (eat l i).log.toNat) ((nodeB_list l leaf).trans (e0.trans (by simp only [List.append_assoc]; rfl))) (by rw [List.length_append, hl, leB_length]; omega) (leB_length _ _);have f3 : fieldAt (nodeB l leaf) (11 + 12 * i) 4 = leB 4 (eat l i).len.toNat := field_eq (p := (([70, leafB leaf, UInt8.ofNat l.length] ++ p) ++ leB 4 (eat l i).log.toNat) ++ leB 4 (eat l i).phys.toNat) ((nodeB_list l leaf).trans (e0.trans (by simp only [List.append_assoc]; rfl))) (by rw [List.length_append, List.length_append, hl, leB_length, leB_length]; omega) (leB_length _ _);unfold entN;rw [ubyte_of f1 (by omega), ubyte_of f2 (by omega), ubyte_of f3 (by omega)];exact Ent.ext' (by show (((eat l i).log.toNat : Nat) : Int) = _; omega) (by show (((eat l i).phys.toNat : Nat) : Int) = _; omega) (by show (((eat l i).len.toNat : Nat) : Int) = _; omega)
theorem byteN_nodeB (l : List Ent) (leaf : Bool) : byteN (nodeB l leaf) 1 = (leafB leaf).toNat ∧ byteN (nodeB l leaf) 2 = l.length % 256 := by
 unfold byteN; rw [nodeB_list]; unfold nodeL; simp
theorem entsN_nodeB {l : List Ent} {leaf : Bool} (h : NodeOk l leaf) : entsN (nodeB l leaf) l.length = l := by
 apply List.ext_getElem?
 intro i;unfold entsN;by_cases hi : i < l.length
 ·rw [List.getElem?_map, List.getElem?_range hi, Option.map_some, entN_nodeB h hi, List.getElem?_eq_getElem hi, eat_eq hi]
 ·rw [List.getElem?_eq_none (by simp; omega), List.getElem?_eq_none (by omega)]
theorem decN_nodeB {l : List Ent} {leaf : Bool} (h : NodeOk l leaf) : decN (nodeB l leaf) = some (l, leaf) := by
 obtain ⟨b1, b2⟩ := byteN_nodeB l leaf;have hl := h.2.1
 have e2 : byteN (nodeB l leaf) 2 = l.length := by rw [b2]; omega
 have e1 : leafN (nodeB l leaf) = leaf := by unfold leafN; rw [b1]; cases leaf <;> rfl
 have e3 := entsN_nodeB h;unfold decN
 have hk : IsNode (nodeB l leaf) := by
  unfold IsNode;rw [e2, e1, e3, nodeB_list];exact ⟨nodeB_size leaf hl, hl, h, rfl⟩
 rw [if_pos hk, e2, e1, e3]
abbrev Shp := List (List (List Ent))
def rowA (S : Shp) (r : Nat) : List (List Ent) := (S[r]?).getD []
def headsA (S : Shp) (r : Nat) : List Ent := (rowA S (r + 1)).flatten
def listA (S : Shp) : List Ent := (rowA S 0).flatten
def pushA (S : Shp) (r : Nat) (l : List Ent) : Shp := S.modify r fun q => q ++ [l]
abbrev Rd := Int → ByteArray × Int
def nodeA (rd : Rd) (x : Ent) (leaf : Bool) (seen : List Int) : Except Int (List Ent × List Int) :=
 if x.phys ∈ seen then .error 80 else if (rd x.phys).2 ≠ 0 then .error (rd x.phys).2 else
 match decN (rd x.phys).1 with
 | none => .error 80
 | some (m, is) => if is = leaf ∧ (eat m 0).log = x.log then .ok (m, x.phys :: seen) else .error 80
def takeA (rd : Rd) : Nat → List Ent → Shp × List Int → Except Int (Shp × List Int)
 | 0, l, st => .ok (pushA st.1 0 l, st.2)
 | r + 1, l, st => l.foldlM (fun st x => match nodeA rd x (r == 0) st.2 with
   | .error e => .error e
   | .ok (m, seen) => takeA rd r m (st.1, seen)) (pushA st.1 (r + 1) l, st.2)
def hitA (l : List Ent) (blocks : List Int) : Bool := blocks.any fun b => l.any fun e => decide (e.phys ≤ b ∧ b < e.phys + e.len)
def numsA (S : Shp) : List Int := (List.range S.length).flatMap fun r => (headsA S r).map Ent.phys
def RootedA (depth : Int) (root : List Ent) : Prop := InoOk ⟨1, false, 0, 0, depth, root⟩
instance (depth : Int) (root : List Ent) : Decidable (RootedA depth root) := by unfold RootedA; infer_instance
def loadA (rd : Rd) (none? : Bool) (depth : Int) (root : List Ent) : Except Int Shp :=
 if RootedA depth root ∧ (depth ≤ 0 ∨ none? = false) then
  match takeA rd depth.toNat root (List.replicate (depth.toNat + 1) [], []) with
  | .error e => .error e
  | .ok (S, _) => if RowOk true (listA S) ∧ hitA (listA S) (numsA S) = false then .ok S else .error 80
 else .error 80
def accL {σ α β : Type} (f : σ → α → σ × β) (s : σ) (l : List α) : σ × List β := l.foldl (fun p x => ((f p.1 x).1, p.2 ++ [(f p.1 x).2])) (s, [])
theorem accL_nil {σ α β : Type} (f : σ → α → σ × β) (s : σ) : accL f s [] = (s, []) := rfl
theorem accL_snoc {σ α β : Type} (f : σ → α → σ × β) (s : σ) (l : List α) (x : α) : accL f s (l ++ [x]) = ((f (accL f s l).1 x).1, (accL f s l).2 ++ [(f (accL f s l).1 x).2]) := by unfold accL; rw [List.foldl_append]; rfl
theorem accL_take {σ α β : Type} (f : σ → α → σ × β) (s : σ) (l : List α) {k : Nat} (h : k < l.length) : accL f s (l.take (k + 1)) = ((f (accL f s (l.take k)).1 l[k]).1, (accL f s (l.take k)).2 ++ [(f (accL f s (l.take k)).1 l[k]).2]) := by
 rw [List.take_succ_eq_append_getElem h, accL_snoc]
theorem accL_len {σ α β : Type} (f : σ → α → σ × β) (s : σ) (l : List α) : (accL f s l).2.length = l.length := by
 have key : ∀ (l : List α) (p : σ × List β), (l.foldl (fun p x => ((f p.1 x).1, p.2 ++ [(f p.1 x).2])) p).2.length = p.2.length + l.length := fun l => by
  induction l with
  | nil => intro p; rfl
  | cons x l ih => intro p; rw [List.foldl_cons, ih]; simp; omega
 have := key l (s, []);unfold accL; rw [this]; simp
theorem accL_cons {σ α β : Type} (f : σ → α → σ × β) (s : σ) (x : α) (l : List α) : accL f s (x :: l) = ((accL f (f s x).1 l).1, (f s x).2 :: (accL f (f s x).1 l).2) := by
 have key : ∀ (l : List α) (s : σ) (o : List β), l.foldl (fun p x => ((f p.1 x).1, p.2 ++ [(f p.1 x).2])) (s, o) = ((accL f s l).1, o ++ (accL f s l).2) := fun l => by
  induction l with
  | nil => intro s o; simp [accL]
  | cons x l ih => intro s o; unfold accL; rw [List.foldl_cons, List.foldl_cons, ih, ih]; simp
 have := key l (f s x).1 [(f s x).2];unfold accL at this ⊢;rw [List.foldl_cons]; simpa using this
theorem accL_map {α β : Type} (f : α → β) (l : List α) : (accL (fun (_ : Unit) x => ((), f x)) () l).2 = l.map f := by
 induction l with
 | nil => rfl
 | cons x l ih => rw [accL_cons, List.map_cons, ih]
abbrev Chg (σ : Type) : Type := σ → Ent → σ × Ent
def chgN {σ : Type} (f : Chg σ) : σ → List (List Ent) → σ × List (List Ent) := accL (accL f)
def chgS {σ : Type} (f : Chg σ) : σ → Shp → σ × Shp := accL (chgN f)
theorem chgS_len {σ : Type} (f : Chg σ) (s : σ) (S : Shp) : (chgS f s S).2.length = S.length := accL_len _ _ _
abbrev Ch : Type := Int × ByteArray
def encN (l : List Ent) (leaf : Bool) : ByteArray := if NodeOk l leaf then nodeB l leaf else ⟨#[]⟩
def blkR (S : Shp) (r : Nat) : List Ch := ((headsA S r).zip (rowA S r)).map fun p => (p.1.phys, encN p.2 (r == 0))
def blkTo (S : Shp) (r : Nat) : List Ch := (List.range r).flatMap (blkR S)
def sortC (l : List Ch) : List Ch := l.mergeSort fun x y => decide (x.1 ≤ y.1)
def blocksA (S : Shp) : List Ch := sortC (blkTo S S.length)
def findC (l : List Ch) (b : Int) : Option Ch := l.find? fun c => decide (c.1 = b)
def chgA (B A : List Ch) : List Ch := A.filter fun c => decide (findC B c.1 ≠ some c)
def freeA (B A : List Ch) : List Int := (B.filter fun c => (findC A c.1).isNone).map (·.1)
structure Span where
 first : Nat
 last : Nat
 start : Nat
 stop : Nat
def nodeAt (ns : List (List Ent)) (i : Nat) : List Ent := (ns[i]?).getD []
def spanAll (ns : List (List Ent)) (l : List Ent) : Span := ⟨0, ns.length, 0, l.length⟩
def beginsA (l node : List Ent) : Bool := decide (node.length ≤ l.length) && decide (l.take node.length = node)
def endsA (l node : List Ent) : Bool := decide (node.length ≤ l.length) && decide (l.drop (l.length - node.length) = node)
def fwdA (ns : List (List Ent)) (l : List Ent) : Nat → Span → Span
 | 0, s => s
 | n + 1, s => if s.first < s.last ∧ beginsA (l.drop s.start) (nodeAt ns s.first) = true then fwdA ns l n ⟨s.first + 1, s.last, s.start + (nodeAt ns s.first).length, s.stop⟩ else s
def bwdA (ns : List (List Ent)) (l : List Ent) : Nat → Span → Span
 | 0, s => s
 | n + 1, s => if s.first < s.last ∧ endsA ((l.drop s.start).take (s.stop - s.start)) (nodeAt ns (s.last - 1)) = true then bwdA ns l n ⟨s.first, s.last - 1, s.start, s.stop - (nodeAt ns (s.last - 1)).length⟩ else s
def wideA (ns : List (List Ent)) (s : Span) : Span := if 0 < s.first then ⟨s.first - 1, s.last, s.start - (nodeAt ns (s.first - 1)).length, s.stop⟩ else ⟨s.first, s.last + 1, s.start, s.stop + (nodeAt ns s.last).length⟩
def widerA (ns : List (List Ent)) : Nat → Span → Span
 | 0, s => s
 | n + 1, s => if 0 < s.stop - s.start ∧ s.stop - s.start < 5 ∧ s.last - s.first < ns.length then widerA ns n (wideA ns s) else s
def unlikeA (ns : List (List Ent)) (l : List Ent) : Span := widerA ns ns.length (bwdA ns l ns.length (fwdA ns l ns.length (spanAll ns l)))
def splitN (m : Nat) : Nat := (m + 9) / 10
def splitA (l : List Ent) : List (List Ent) := (List.range (splitN l.length)).map fun i => (l.drop (i * l.length / splitN l.length)).take ((i + 1) * l.length / splitN l.length - i * l.length / splitN l.length)
def madeA (hs : List Ent) (s : Span) (parts : List (List Ent)) : List Ent := (List.range parts.length).map fun k => ⟨(eat (nodeAt parts k) 0).log, if s.first + k < s.last then (eat hs (s.first + k)).phys else 0, 0⟩
def cutL (l : List Ent) (s : Span) : List Ent := (l.drop s.start).take (s.stop - s.start)
def packN (ns : List (List Ent)) (l : List Ent) (s : Span) : List (List Ent) := ns.take s.first ++ (splitA (cutL l s) ++ ns.drop s.last)
def packH (hs l : List Ent) (s : Span) : List Ent := hs.take s.first ++ (madeA hs s (splitA (cutL l s)) ++ hs.drop s.last)
def oldN (old : Shp) (r : Nat) : List (List Ent) := if r + 1 < old.length then rowA old r else []
abbrev Choose : Type := List (List Ent) → List Ent → Span
def stackR (old : Shp) (ch : Choose) : Nat → Nat → List Ent → Shp → Shp
 | 0, _, l, acc => acc ++ [[l]]
 | n + 1, r, l, acc => if l.length ≤ 4 then acc ++ [[l]] else stackR old ch n (r + 1) (packH (headsA old r) l (ch (oldN old r) l)) (acc ++ [packN (oldN old r) l (ch (oldN old r) l)])
def stackA (old : Shp) (l : List Ent) (ch : Choose) : Shp := stackR old ch (old.length + l.length) 0 l []
def growA (old : Shp) (l : List Ent) : Shp := if l = listA old then old else if 4 < (stackA old l unlikeA).length - 1 then stackA old l spanAll else stackA old l unlikeA
def lens (ns : List (List Ent)) : Nat := (ns.map List.length).sum
structure SpanOk (ns : List (List Ent)) (l : List Ent) (s : Span) : Prop where
 a : s.first ≤ s.last
 b : s.last ≤ ns.length
 c : s.start ≤ s.stop
 d : s.stop ≤ l.length
 e : s.start = lens (ns.take s.first)
 f : s.stop + lens (ns.drop s.last) = l.length
theorem lens_take {ns : List (List Ent)} {i : Nat} (h : i < ns.length) : lens (ns.take (i + 1)) = lens (ns.take i) + (nodeAt ns i).length := by
 unfold lens nodeAt; rw [List.take_succ_eq_append_getElem h, List.map_append, List.sum_append, List.getElem?_eq_getElem h]; simp
theorem lens_drop {ns : List (List Ent)} {i : Nat} (h : i < ns.length) : lens (ns.drop i) = (nodeAt ns i).length + lens (ns.drop (i + 1)) := by
 unfold lens nodeAt; rw [List.drop_eq_getElem_cons h, List.map_cons, List.sum_cons, List.getElem?_eq_getElem h]; simp
theorem span_all (ns : List (List Ent)) (l : List Ent) : SpanOk ns l (spanAll ns l) := ⟨Nat.zero_le _, Nat.le_refl _, Nat.zero_le _, Nat.le_refl _, by simp [spanAll, lens], by simp [spanAll, lens]⟩
theorem span_fwd {ns : List (List Ent)} {l : List Ent} : ∀ (n : Nat) {s : Span}, SpanOk ns l s → s.stop = l.length → SpanOk ns l (fwdA ns l n s) ∧ (fwdA ns l n s).stop = l.length
 | 0, s, h, hs => ⟨h, hs⟩
 | n + 1, s, h, hs => by
   unfold fwdA;split
   ·rename_i k
    obtain ⟨k1, k2⟩ := k;unfold beginsA at k2;rw [Bool.and_eq_true, decide_eq_true_iff, List.length_drop] at k2;have hc := h.c;refine span_fwd n ⟨by show s.first + 1 ≤ s.last; omega, h.b, ?_, h.d, ?_, h.f⟩ hs
    ·show s.start + _ ≤ s.stop; omega
    ·show s.start + _ = _; rw [lens_take (by have := h.b; omega), h.e]
   ·exact ⟨h, hs⟩
theorem span_bwd {ns : List (List Ent)} {l : List Ent} : ∀ (n : Nat) {s : Span}, SpanOk ns l s → SpanOk ns l (bwdA ns l n s)
 | 0, s, h => h
 | n + 1, s, h => by
   unfold bwdA;split
   ·rename_i k
    obtain ⟨k1, k2⟩ := k;unfold endsA at k2;rw [Bool.and_eq_true, decide_eq_true_iff, List.length_take, List.length_drop] at k2;have hc := h.c;have hd := h.d;have hb := h.b;have h1 := lens_drop (ns := ns) (i := s.last - 1) (by omega);rw [show s.last - 1 + 1 = s.last by omega] at h1;have hf := h.f;refine span_bwd n ⟨by show s.first ≤ s.last - 1; omega, by show s.last - 1 ≤ _; omega, ?_, by show s.stop - _ ≤ _; omega, h.e, ?_⟩
    ·show s.start ≤ s.stop - _; omega
    ·show s.stop - _ + _ = _
     show s.stop - (nodeAt ns (s.last - 1)).length + lens (ns.drop (s.last - 1)) = _
     omega
   ·exact h
theorem span_wide {ns : List (List Ent)} {l : List Ent} {s : Span} (h : SpanOk ns l s) (hw : s.last - s.first < ns.length) : SpanOk ns l (wideA ns s) := by
 have ha := h.a;have hb := h.b;have hc := h.c;have hd := h.d;have he := h.e;have hf := h.f;unfold wideA;split
 ·rename_i k
  have h1 := lens_take (ns := ns) (i := s.first - 1) (by omega);rw [show s.first - 1 + 1 = s.first by omega] at h1;exact ⟨by show s.first - 1 ≤ s.last; omega, hb, by show s.start - _ ≤ s.stop; omega, hd, by show s.start - (nodeAt ns (s.first - 1)).length = lens (ns.take (s.first - 1)); omega, hf⟩
 ·rename_i k
  have h1 := lens_drop (ns := ns) (i := s.last) (by omega);exact ⟨by show s.first ≤ s.last + 1; omega, by show s.last + 1 ≤ _; omega, by show s.start ≤ s.stop + _; omega, by show s.stop + _ ≤ _; omega, he, by show s.stop + (nodeAt ns s.last).length + lens (ns.drop (s.last + 1)) = _; omega⟩
theorem span_wider {ns : List (List Ent)} {l : List Ent} : ∀ (n : Nat) {s : Span}, SpanOk ns l s → SpanOk ns l (widerA ns n s)
 | 0, s, h => h
 | n + 1, s, h => by
   unfold widerA;split
   ·rename_i k; exact span_wider n (span_wide h k.2.2)
   ·exact h
theorem span_unlike (ns : List (List Ent)) (l : List Ent) : SpanOk ns l (unlikeA ns l) := span_wider _ (span_bwd _ (span_fwd _ (span_all ns l) rfl).1)
theorem splitA_len (l : List Ent) : (splitA l).length = splitN l.length := by unfold splitA; rw [List.length_map, List.length_range]
theorem splitN_le (m : Nat) : splitN m ≤ m := by unfold splitN; omega
theorem splitN_lt {m : Nat} (h : 2 ≤ m) : splitN m < m := by unfold splitN; omega
theorem madeA_len (hs : List Ent) (s : Span) (parts : List (List Ent)) : (madeA hs s parts).length = parts.length := by unfold madeA; rw [List.length_map, List.length_range]
theorem cutL_len {ns : List (List Ent)} {l : List Ent} {s : Span} (h : SpanOk ns l s) : (cutL l s).length = s.stop - s.start := by unfold cutL; rw [List.length_take, List.length_drop]; have := h.d; have := h.c; omega
theorem packH_len {ns : List (List Ent)} {hs l : List Ent} {s : Span} (h : SpanOk ns l s) (hh : hs.length = ns.length) : (packH hs l s).length = s.first + (splitN (s.stop - s.start) + (ns.length - s.last)) := by
 unfold packH;rw [List.length_append, List.length_append, List.length_take, List.length_drop, madeA_len, splitA_len, cutL_len h, hh];have := h.a; have := h.b; omega
theorem packN_len {ns : List (List Ent)} {l : List Ent} {s : Span} (h : SpanOk ns l s) : (packN ns l s).length = s.first + (splitN (s.stop - s.start) + (ns.length - s.last)) := by
 unfold packN;rw [List.length_append, List.length_append, List.length_take, List.length_drop, splitA_len, cutL_len h];have := h.a; have := h.b; omega
theorem lens_ge {ns : List (List Ent)} (h : ∀ x ∈ ns, 1 ≤ x.length) : ns.length ≤ lens ns := by
 induction ns with
 | nil => exact Nat.le_refl _
 | cons x ns ih =>
   have h1 := ih fun y hy => h y (List.mem_cons_of_mem _ hy);have h2 := h x (List.mem_cons_self ..);unfold lens at h1 ⊢;rw [List.map_cons, List.sum_cons, List.length_cons]; omega
theorem packH_le {ns : List (List Ent)} {hs l : List Ent} {s : Span} (h : SpanOk ns l s) (hh : hs.length = ns.length) (h1 : ∀ x ∈ ns, 1 ≤ x.length) : (packH hs l s).length ≤ l.length := by
 rw [packH_len h hh];have h2 := lens_ge (ns := ns.take s.first) fun x hx => h1 x (List.mem_of_mem_take hx);have h3 := lens_ge (ns := ns.drop s.last) fun x hx => h1 x (List.mem_of_mem_drop hx);have h4 := splitN_le (s.stop - s.start);rw [List.length_take] at h2;rw [List.length_drop] at h3;have := h.a; have := h.b; have := h.c; have := h.d; have := h.e; have := h.f;omega
theorem packH_lt {hs l : List Ent} {s : Span} (h : SpanOk [] l s) (hh : hs.length = 0) (h4 : 4 < l.length) : (packH hs l s).length < l.length := by
 have e1 := h.e; have f1 := h.f; have b1 := h.b; have a1 := h.a
 have hl0 : ∀ n, lens (([] : List (List Ent)).take n) = 0 := fun n => by rw [List.take_nil]; rfl
 have hd0 : ∀ n, lens (([] : List (List Ent)).drop n) = 0 := fun n => by rw [List.drop_nil]; rfl
 rw [hl0] at e1;rw [hd0] at f1;rw [packH_len h (by simpa using hh)];rw [List.length_nil] at b1 ⊢;have := splitN_lt (m := s.stop - s.start) (by omega);omega
structure WellS (S : Shp) : Prop where
 pos : 0 < S.length
 heads : ∀ r, r + 1 < S.length → (headsA S r).length = (rowA S r).length
 some : ∀ r, r + 1 < S.length → ∀ x ∈ rowA S r, 1 ≤ x.length
 root : (rowA S (S.length - 1)).length = 1
theorem WellS.old {S : Shp} (h : WellS S) (r : Nat) : (headsA S r).length = (oldN S r).length ∧ ∀ x ∈ oldN S r, 1 ≤ x.length := by
 unfold oldN;by_cases hr : r + 1 < S.length
 ·rw [if_pos hr]; exact ⟨h.heads r hr, h.some r hr⟩
 ·rw [if_neg hr]
  refine ⟨?_, fun x hx => by cases hx⟩;unfold headsA rowA;rw [List.getElem?_eq_none (by omega)]; rfl
structure SpanFl (ns : List (List Ent)) (l : List Ent) (s : Span) : Prop where
 ok : SpanOk ns l s
 p : (ns.take s.first).flatten = l.take s.start
 q : (ns.drop s.last).flatten = l.drop s.stop
theorem flat_take {ns : List (List Ent)} {i : Nat} (h : i < ns.length) : (ns.take (i + 1)).flatten = (ns.take i).flatten ++ nodeAt ns i := by
 unfold nodeAt; rw [List.take_succ_eq_append_getElem h, List.flatten_append, List.getElem?_eq_getElem h]; simp
theorem flat_drop {ns : List (List Ent)} {i : Nat} (h : i < ns.length) : (ns.drop i).flatten = nodeAt ns i ++ (ns.drop (i + 1)).flatten := by
 unfold nodeAt; rw [List.drop_eq_getElem_cons h, List.flatten_cons, List.getElem?_eq_getElem h]; simp
theorem fl_all (ns : List (List Ent)) (l : List Ent) : SpanFl ns l (spanAll ns l) := ⟨span_all ns l, by simp [spanAll], by simp [spanAll]⟩
theorem fl_fwd {ns : List (List Ent)} {l : List Ent} : ∀ (n : Nat) {s : Span}, SpanFl ns l s → s.stop = l.length → SpanFl ns l (fwdA ns l n s) ∧ (fwdA ns l n s).stop = l.length
 | 0, s, h, hs => ⟨h, hs⟩
 | n + 1, s, h, hs => by
   unfold fwdA;split
   ·rename_i k
    obtain ⟨k1, k2⟩ := k;unfold beginsA at k2;rw [Bool.and_eq_true, decide_eq_true_iff, decide_eq_true_iff, List.length_drop] at k2;obtain ⟨k2, k3⟩ := k2;have hc := h.ok.c;have hb := h.ok.b;refine fl_fwd n ⟨⟨by show s.first + 1 ≤ s.last; omega, hb, ?_, h.ok.d, ?_, h.ok.f⟩, ?_, h.q⟩ hs
    ·show s.start + _ ≤ s.stop; omega
    ·show s.start + _ = _; rw [lens_take (by omega), h.ok.e]
    ·show (ns.take (s.first + 1)).flatten = l.take (s.start + (nodeAt ns s.first).length)
     rw [flat_take (by omega), h.p, List.take_add, k3]
   ·exact ⟨h, hs⟩
theorem fl_bwd {ns : List (List Ent)} {l : List Ent} : ∀ (n : Nat) {s : Span}, SpanFl ns l s → SpanFl ns l (bwdA ns l n s)
 | 0, s, h => h
 | n + 1, s, h => by
   unfold bwdA;split
   ·rename_i k
    obtain ⟨k1, k2⟩ := k;unfold endsA at k2;rw [Bool.and_eq_true, decide_eq_true_iff, decide_eq_true_iff, List.length_take, List.length_drop] at k2;obtain ⟨k2, k3⟩ := k2;have hc := h.ok.c;have hd := h.ok.d;have hb := h.ok.b;have h1 := lens_drop (ns := ns) (i := s.last - 1) (by omega);have h2 := flat_drop (ns := ns) (i := s.last - 1) (by omega);rw [show s.last - 1 + 1 = s.last by omega] at h1 h2;have hf := h.ok.f;refine fl_bwd n ⟨⟨by show s.first ≤ s.last - 1; omega, by show s.last - 1 ≤ _; omega, ?_, by show s.stop - _ ≤ _; omega, h.ok.e, ?_⟩, h.p, ?_⟩
    ·show s.start ≤ s.stop - _; omega
    ·show s.stop - (nodeAt ns (s.last - 1)).length + lens (ns.drop (s.last - 1)) = _
     omega
    ·show (ns.drop (s.last - 1)).flatten = l.drop (s.stop - (nodeAt ns (s.last - 1)).length)
     rw [h2, h.q]
     have e : min (s.stop - s.start) (l.length - s.start) = s.stop - s.start := by omega
     rw [e] at k3;rw [List.drop_take, List.drop_drop] at k3
     have e2 : s.start + (s.stop - s.start - (nodeAt ns (s.last - 1)).length) = s.stop - (nodeAt ns (s.last - 1)).length := by omega
     have e3 : s.stop - s.start - (s.stop - s.start - (nodeAt ns (s.last - 1)).length) = (nodeAt ns (s.last - 1)).length := by omega
     rw [e2, e3] at k3
     conv => rhs; rw [← List.take_append_drop (nodeAt ns (s.last - 1)).length (l.drop (s.stop - (nodeAt ns (s.last - 1)).length)), k3, List.drop_drop]
     congr 2;omega
   ·exact h
theorem fl_wide {ns : List (List Ent)} {l : List Ent} {s : Span} (h : SpanFl ns l s) (hw : s.last - s.first < ns.length) : SpanFl ns l (wideA ns s) := by
 refine ⟨span_wide h.ok hw, ?_, ?_⟩
 ·have ha := h.ok.a
  have hb := h.ok.b;have hc := h.ok.c;have hd := h.ok.d;unfold wideA;split
  ·rename_i k
   show (ns.take (s.first - 1)).flatten = l.take (s.start - (nodeAt ns (s.first - 1)).length)
   have h1 := flat_take (ns := ns) (i := s.first - 1) (by omega);rw [show s.first - 1 + 1 = s.first by omega, h.p] at h1;have hl := congrArg List.length h1;rw [List.length_append, List.length_take] at hl;have e := congrArg (List.take (s.start - (nodeAt ns (s.first - 1)).length)) h1;rw [List.take_take, show min (s.start - (nodeAt ns (s.first - 1)).length) s.start = s.start - (nodeAt ns (s.first - 1)).length by omega, List.take_left' (by omega)] at e;exact e.symm
  ·exact h.p
 ·have ha := h.ok.a
  have hb := h.ok.b;unfold wideA;split
  ·exact h.q
  ·rename_i k
   show (ns.drop (s.last + 1)).flatten = l.drop (s.stop + (nodeAt ns s.last).length)
   have h1 := flat_drop (ns := ns) (i := s.last) (by omega);rw [h.q] at h1;have e := congrArg (List.drop (nodeAt ns s.last).length) h1;rw [List.drop_drop, List.drop_append_of_le_length (Nat.le_refl _), List.drop_of_length_le (Nat.le_refl _), List.nil_append] at e;exact e.symm
theorem fl_wider {ns : List (List Ent)} {l : List Ent} : ∀ (n : Nat) {s : Span}, SpanFl ns l s → SpanFl ns l (widerA ns n s)
 | 0, s, h => h
 | n + 1, s, h => by
   unfold widerA;split
   ·rename_i k; exact fl_wider n (fl_wide h k.2.2)
   ·exact h
theorem fl_unlike (ns : List (List Ent)) (l : List Ent) : SpanFl ns l (unlikeA ns l) := fl_wider _ (fl_bwd _ (fl_fwd _ (fl_all ns l) rfl).1)
theorem splitA_flat (l : List Ent) : (splitA l).flatten = l := by
 unfold splitA;generalize hn : splitN l.length = n
 have H : ∀ k, k ≤ n → ((List.range k).map fun i => (l.drop (i * l.length / n)).take ((i + 1) * l.length / n - i * l.length / n)).flatten = l.take (k * l.length / n) := by
  intro k
  induction k with
  | zero => intro _; simp
  | succ k ih =>
    intro hk;have hle : k * l.length / n ≤ (k + 1) * l.length / n := Nat.div_le_div_right (Nat.mul_le_mul_right _ (by omega));rw [List.range_succ, List.map_append, List.flatten_append, ih (by omega)];simp only [List.map_cons, List.map_nil, List.flatten_cons, List.flatten_nil, List.append_nil]
    conv => rhs; rw [show (k + 1) * l.length / n = k * l.length / n + ((k + 1) * l.length / n - k * l.length / n) by omega, List.take_add]
 rw [H n (Nat.le_refl _)];by_cases h0 : n = 0
 ·have : l.length = 0 := by unfold splitN at hn; omega
  rw [List.length_eq_zero_iff.1 this]; simp
 ·rw [Nat.mul_comm, Nat.mul_div_cancel _ (by omega), List.take_length]
theorem packN_flat {ns : List (List Ent)} {l : List Ent} {s : Span} (h : SpanFl ns l s) : (packN ns l s).flatten = l := by
 unfold packN cutL;rw [List.flatten_append, List.flatten_append, h.p, h.q, splitA_flat];have hc := h.ok.c;rw [← List.append_assoc]
 have e : l.take s.start ++ (l.drop s.start).take (s.stop - s.start) = l.take s.stop := by
  conv => rhs; rw [show s.stop = s.start + (s.stop - s.start) by omega, List.take_add]
 rw [e, List.take_append_drop]
theorem stack_stop {old : Shp} {ch : Choose} {l : List Ent} (h : l.length ≤ 4) : ∀ k r acc, stackR old ch k r l acc = acc ++ [[l]]
 | 0, _, _ => rfl
 | k + 1, _, _ => by unfold stackR; rw [if_pos h]
theorem stack_go {old : Shp} {ch : Choose} {l : List Ent} (h : ¬ l.length ≤ 4) (k r : Nat) (acc : Shp) : stackR old ch (k + 1) r l acc = stackR old ch k (r + 1) (packH (headsA old r) l (ch (oldN old r) l)) (acc ++ [packN (oldN old r) l (ch (oldN old r) l)]) := by
 conv => lhs; unfold stackR
 rw [if_neg h]
theorem stack_less {old : Shp} (hw : WellS old) {ch : Choose} (hch : ∀ ns l, SpanOk ns l (ch ns l)) {l : List Ent} (h : ¬ l.length ≤ 4) (r : Nat) :
 (packH (headsA old r) l (ch (oldN old r) l)).length ≤ l.length ∧ (old.length - (r + 1)) + (packH (headsA old r) l (ch (oldN old r) l)).length < (old.length - r) + l.length := by
 obtain ⟨h1, h2⟩ := hw.old r;have hle := packH_le (hch (oldN old r) l) h1 h2;refine ⟨hle, ?_⟩;by_cases hr : r + 1 < old.length
 ·omega
 ·have h0 : oldN old r = [] := by unfold oldN; rw [if_neg hr]
  have hso := hch (oldN old r) l;rw [h0] at hso h1 ⊢;have := packH_lt hso (by rw [h1]; rfl) (by omega);omega
theorem row_app_lt {A B : Shp} {q : Nat} (h : q < A.length) : rowA (A ++ B) q = rowA A q := by unfold rowA; rw [List.getElem?_append_left h]
theorem row_app_at (A : Shp) (x : List (List Ent)) : rowA (A ++ [x]) A.length = x := by unfold rowA; rw [List.getElem?_append_right (Nat.le_refl _)]; simp
theorem row_past {A : Shp} {q : Nat} (h : A.length ≤ q) : rowA A q = [] := by unfold rowA; rw [List.getElem?_eq_none_iff.2 h]; rfl
theorem stackR_row (old : Shp) (ch : Choose) : ∀ (k r : Nat) (l : List Ent) (acc : Shp) (q : Nat), q < acc.length → rowA (stackR old ch k r l acc) q = rowA acc q
 | 0, r, l, acc, q, h => row_app_lt h
 | k + 1, r, l, acc, q, h => by
   by_cases h4 : l.length ≤ 4
   ·rw [stack_stop h4]; exact row_app_lt h
   ·rw [stack_go h4, stackR_row old ch k _ _ _ q (by rw [List.length_append]; omega), row_app_lt h]
theorem stackR_next {old : Shp} {ch : Choose} (hch : ∀ ns l, SpanFl ns l (ch ns l)) (k r : Nat) (l : List Ent) (acc : Shp) : (rowA (stackR old ch k r l acc) acc.length).flatten = l := by
 by_cases h4 : l.length ≤ 4
 ·rw [stack_stop h4, row_app_at]; simp
 ·cases k with
  | zero => show (rowA (acc ++ [[l]]) acc.length).flatten = l; rw [row_app_at]; simp
  | succ k =>
    rw [stack_go h4, stackR_row old ch k _ _ _ _ (by rw [List.length_append]; simp), row_app_at];exact packN_flat (hch _ _)
theorem stack_list {old : Shp} {ch : Choose} (hch : ∀ ns l, SpanFl ns l (ch ns l)) (L : List Ent) : listA (stackA old L ch) = L := stackR_next hch _ _ _ []
theorem grow_list (old : Shp) (L : List Ent) : listA (growA old L) = L := by
 unfold growA;split
 ·rename_i h; exact h.symm
 ·split
  ·exact stack_list (ch := spanAll) fl_all L
  ·exact stack_list (ch := unlikeA) fl_unlike L
inductive Stacked (old : Shp) (ch : Choose) : Nat → List Ent → Shp → Prop
 | top (r : Nat) (l : List Ent) (h : l.length ≤ 4) : Stacked old ch r l [[l]]
 | row (r : Nat) (l : List Ent) (S : Shp) (h : ¬ l.length ≤ 4) (k : Stacked old ch (r + 1) (packH (headsA old r) l (ch (oldN old r) l)) S) : Stacked old ch r l (packN (oldN old r) l (ch (oldN old r) l) :: S)
theorem stackR_is {old : Shp} (hw : WellS old) {ch : Choose} (hch : ∀ ns l, SpanOk ns l (ch ns l)) : ∀ (k r : Nat) (l : List Ent) (acc : Shp), (old.length - r) + l.length ≤ k → ∃ S, stackR old ch k r l acc = acc ++ S ∧ Stacked old ch r l S
 | 0, r, l, acc, h => ⟨[[l]], rfl, .top r l (by omega)⟩
 | k + 1, r, l, acc, h => by
   by_cases h4 : l.length ≤ 4
   ·exact ⟨[[l]], stack_stop h4 _ _ _, .top r l h4⟩
   ·obtain ⟨-, hlt⟩ := stack_less hw hch h4 r
    obtain ⟨S, h1, h2⟩ := stackR_is hw hch k (r + 1) (packH (headsA old r) l (ch (oldN old r) l)) (acc ++ [packN (oldN old r) l (ch (oldN old r) l)]) (by omega);exact ⟨packN (oldN old r) l (ch (oldN old r) l) :: S, by rw [stack_go h4, h1, List.append_assoc]; rfl, .row r l S h4 h2⟩
theorem stackA_is {old : Shp} (hw : WellS old) {ch : Choose} (hch : ∀ ns l, SpanOk ns l (ch ns l)) (L : List Ent) : Stacked old ch 0 L (stackA old L ch) := by
 obtain ⟨S, h1, h2⟩ := stackR_is hw hch (old.length + L.length) 0 L [] (by omega);unfold stackA;rw [h1]; exact h2
theorem Stacked.pos {old : Shp} {ch : Choose} {r : Nat} {l : List Ent} {S : Shp} (h : Stacked old ch r l S) : 0 < S.length := by cases h <;> simp
theorem Stacked.first {old : Shp} {ch : Choose} (hch : ∀ ns l, SpanFl ns l (ch ns l)) {r : Nat} {l : List Ent} {S : Shp} (h : Stacked old ch r l S) : (rowA S 0).flatten = l := by
 cases h with
 | top => unfold rowA; simp
 | row _ _ S h k => unfold rowA; simp only [List.getElem?_cons_zero, Option.getD_some]; exact packN_flat (hch _ _)
theorem Stacked.head {old : Shp} {ch : Choose} (hch : ∀ ns l, SpanFl ns l (ch ns l)) {r : Nat} {l : List Ent} {S : Shp} (h : Stacked old ch r l S) : headsA S 0 = if l.length ≤ 4 then [] else packH (headsA old r) l (ch (oldN old r) l) := by
 cases h with
 | top _ _ h => rw [if_pos h]; unfold headsA rowA; simp
 | row _ _ S h k =>
   rw [if_neg h, ← k.first hch];unfold headsA rowA
   simp
theorem heads_cons (x : List (List Ent)) (S : Shp) (q : Nat) : headsA (x :: S) (q + 1) = headsA S q := by unfold headsA rowA; simp
theorem row_cons (x : List (List Ent)) (S : Shp) (q : Nat) : rowA (x :: S) (q + 1) = rowA S q := by unfold rowA; simp
theorem splitA_size (l : List Ent) : ∀ x ∈ splitA l, 1 ≤ x.length ∧ x.length ≤ 10 := by
 intro x hx;unfold splitA at hx;obtain ⟨i, hi, rfl⟩ := List.mem_map.1 hx;rw [List.mem_range] at hi
 have hn0 : 0 < splitN l.length := by omega
 have hnm : splitN l.length ≤ l.length := splitN_le _
 have hm10 : l.length ≤ splitN l.length * 10 := by unfold splitN; omega
 generalize splitN l.length = n at *;generalize hm : l.length = m at *
 have e1 : (i + 1) * m = i * m + m := by rw [Nat.add_mul, Nat.one_mul]
 have k1 : i * m / n + 1 ≤ (i + 1) * m / n := by
  have : (i * m + n) / n ≤ (i * m + m) / n := Nat.div_le_div_right (by omega);rw [Nat.add_div_right _ hn0] at this;rw [e1]; exact this
 have k2 : (i + 1) * m / n ≤ i * m / n + 10 := by
  have : (i * m + m) / n ≤ (i * m + n * 10) / n := Nat.div_le_div_right (by omega);rw [Nat.add_mul_div_left _ _ hn0] at this;rw [e1]; exact this
 have k3 : (i + 1) * m / n ≤ m := by
  have : (i + 1) * m ≤ m * n := by rw [Nat.mul_comm m n]; exact Nat.mul_le_mul_right _ (by omega)
  exact Nat.le_trans (Nat.div_le_div_right this) (by rw [Nat.mul_div_cancel _ hn0]; exact Nat.le_refl _)
 rw [List.length_take, List.length_drop, hm];omega
theorem packN_mem {ns : List (List Ent)} {l : List Ent} {s : Span} {x : List Ent} (h : x ∈ packN ns l s) : x ∈ ns ∨ (1 ≤ x.length ∧ x.length ≤ 10) := by
 unfold packN at h;rcases List.mem_append.1 h with h | h
 ·exact .inl (List.mem_of_mem_take h)
 ·rcases List.mem_append.1 h with h | h
  ·exact .inr (splitA_size _ _ h)
  ·exact .inl (List.mem_of_mem_drop h)
theorem Stacked.well {old : Shp} (hw : WellS old) {ch : Choose} (hch : ∀ ns l, SpanFl ns l (ch ns l)) {r : Nat} {l : List Ent} {S : Shp} (h : Stacked old ch r l S) : WellS S := by
 induction h with
 | top r l h =>
   exact ⟨by simp, fun q hq => by simp at hq, fun q hq => by simp at hq, by simp [rowA]⟩
 | row r l S h k ih =>
   obtain ⟨o1, o2⟩ := hw.old r;have hso := (hch (oldN old r) l).ok;refine ⟨by simp, fun q hq => ?_, fun q hq x hx => ?_, ?_⟩
   ·cases q with
    | zero =>
      have e1 : headsA (packN (oldN old r) l (ch (oldN old r) l) :: S) 0 = packH (headsA old r) l (ch (oldN old r) l) := by
       rw [← k.first hch]; unfold headsA rowA; simp
      have e2 : rowA (packN (oldN old r) l (ch (oldN old r) l) :: S) 0 = packN (oldN old r) l (ch (oldN old r) l) := by unfold rowA; simp
      rw [e1, e2, packH_len hso o1, packN_len hso]
    | succ q =>
      rw [heads_cons, row_cons];exact ih.heads q (by simp at hq; omega)
   ·cases q with
    | zero =>
      have e2 : rowA (packN (oldN old r) l (ch (oldN old r) l) :: S) 0 = packN (oldN old r) l (ch (oldN old r) l) := by unfold rowA; simp
      rw [e2] at hx;rcases packN_mem hx with hx | hx
      ·exact o2 x hx
      ·exact hx.1
    | succ q =>
      rw [row_cons] at hx;exact ih.some q (by simp at hq; omega) x hx
   ·have hp := k.pos
    have e : (packN (oldN old r) l (ch (oldN old r) l) :: S).length - 1 = (S.length - 1) + 1 := by simp; omega
    rw [e, row_cons];exact ih.root
theorem grow_well {old : Shp} (hw : WellS old) (L : List Ent) : WellS (growA old L) := by
 unfold growA;split
 ·exact hw
 ·split
  ·exact (stackA_is hw (ch := spanAll) span_all L).well hw fl_all
  ·exact (stackA_is hw (ch := unlikeA) span_unlike L).well hw fl_unlike
theorem Stacked.sizes {old : Shp} {ch : Choose} {r : Nat} {l : List Ent} {S : Shp} (h : Stacked old ch r l S) (ho : ∀ q, q + 1 < old.length → ∀ x ∈ rowA old q, x.length ≤ 10) : ∀ q, ∀ x ∈ rowA S q, x.length ≤ 10 := by
 induction h with
 | top r l h =>
   intro q x hx
   cases q with
   | zero => have : x = l := by simpa [rowA] using hx
             subst this; omega
   | succ q => simp [rowA] at hx
 | row r l S h k ih =>
   intro q x hx
   cases q with
   | zero =>
     have e2 : rowA (packN (oldN old r) l (ch (oldN old r) l) :: S) 0 = packN (oldN old r) l (ch (oldN old r) l) := by unfold rowA; simp
     rw [e2] at hx;rcases packN_mem hx with hx | hx
     ·unfold oldN at hx
      split at hx
      ·rename_i hr; exact ho r hr x hx
      ·cases hx
     ·exact hx.2
   | succ q =>
     rw [row_cons] at hx;exact ih q x hx
def physT (l : List Ent) : List Int := (l.map Ent.phys).filter fun b => decide (b ≠ 0)
theorem physT_append (a b : List Ent) : physT (a ++ b) = physT a ++ physT b := by unfold physT; rw [List.map_append, List.filter_append]
theorem physT_sub (l : List Ent) : (physT l).Sublist (l.map Ent.phys) := List.filter_sublist
theorem range_sub {f : Nat → Int} (n d : Nat) (h0 : ∀ k, d ≤ k → f k = 0) : ((List.range n).map f |>.filter fun b => decide (b ≠ 0)).Sublist ((List.range d).map f) := by
 induction n with
 | zero => simp
 | succ n ih =>
   rw [List.range_succ, List.map_append, List.filter_append];by_cases hn : n < d
   ·clear ih
    have hsub : ((List.range (n + 1)).map f).Sublist ((List.range d).map f) := by
     refine List.Sublist.map _ ?_
     have : List.range (n + 1) = (List.range d).take (n + 1) := by rw [List.take_range]; congr 1; omega
     rw [this]; exact List.take_sublist _ _
    have e : (List.map f (List.range n)).filter (fun b => decide (b ≠ 0)) ++ (List.map f [n]).filter (fun b => decide (b ≠ 0)) = (List.map f (List.range (n + 1))).filter (fun b => decide (b ≠ 0)) := by
     rw [List.range_succ, List.map_append, List.filter_append]
    rw [e];exact List.filter_sublist.trans hsub
   ·have : (List.map f [n]).filter (fun b => decide (b ≠ 0)) = [] := by simp [h0 n (by omega)]
    rw [this, List.append_nil]; exact ih
theorem map_eat (hs : List Ent) (a b : Nat) (hb : b ≤ hs.length) : (List.range (b - a)).map (fun k => (eat hs (a + k)).phys) = ((hs.take b).drop a).map Ent.phys := by
 apply List.ext_getElem
 ·simp; omega
 ·intro k h1 h2
  simp only [List.length_map, List.length_range] at h1;simp only [List.getElem_map, List.getElem_range, List.getElem_drop, List.getElem_take];rw [eat_eq (by omega)]
theorem packH_sub {ns : List (List Ent)} {hs l : List Ent} {s : Span} (h : SpanOk ns l s) (hh : hs.length = ns.length) : (physT (packH hs l s)).Sublist (hs.map Ent.phys) := by
 have ha := h.a;have hb := h.b;unfold packH;rw [physT_append, physT_append]
 have e : hs.map Ent.phys = (hs.take s.first).map Ent.phys ++ (((hs.take s.last).drop s.first).map Ent.phys ++ (hs.drop s.last).map Ent.phys) := by
  rw [← List.map_append, ← List.map_append];congr 1
  have e1 : hs.take s.first = (hs.take s.last).take s.first := by rw [List.take_take]; congr 1; omega
  rw [e1, ← List.append_assoc, List.take_append_drop, List.take_append_drop]
 rw [e];refine List.Sublist.append (physT_sub _) (List.Sublist.append ?_ (physT_sub _));rw [← map_eat hs s.first s.last (by omega)];unfold physT madeA;rw [List.map_map];have hd := range_sub (f := fun k => if s.first + k < s.last then (eat hs (s.first + k)).phys else 0) (splitA (cutL l s)).length (s.last - s.first) (fun k hk => by rw [if_neg (by omega)])
 have e2 : (List.range (s.last - s.first)).map (fun k => if s.first + k < s.last then (eat hs (s.first + k)).phys else 0) = (List.range (s.last - s.first)).map (fun k => (eat hs (s.first + k)).phys) := by
  refine List.map_congr_left fun k hk => ?_;rw [List.mem_range] at hk;rw [if_pos (by omega)]
 rw [e2] at hd;exact hd
structure TakeRel (r : Nat) (l : List Ent) (S : Shp) (seen : List Int) (S' : Shp) (seen' : List Int) : Prop where
 len : S'.length = S.length
 up : ∀ k, r < k → rowA S' k = rowA S k
 ex : ∃ N : Nat → List (List Ent), (∀ k, k ≤ r → rowA S' k = rowA S k ++ N k) ∧ N r = [l] ∧ (∀ k, k < r → (N (k + 1)).flatten.length = (N k).length ∧ ∀ x ∈ N k, NodeOk x (k == 0)) ∧ seen'.Perm ((List.range r).flatMap (fun k => (N (k + 1)).flatten.map Ent.phys) ++ seen)
 nd : seen.Nodup → seen'.Nodup
theorem push_row {S : Shp} {r : Nat} (hr : r < S.length) (l : List Ent) : rowA (pushA S r l) r = rowA S r ++ [l] := by
 unfold rowA pushA;rw [List.getElem?_modify]
 simp [List.getElem?_eq_getElem hr]
theorem push_row_ne (S : Shp) {r k : Nat} (h : k ≠ r) (l : List Ent) : rowA (pushA S r l) k = rowA S k := by
 unfold rowA pushA;rw [List.getElem?_modify]
 simp [show ¬ r = k from fun e => h e.symm]
theorem nodeA_some {rd : Rd} {x : Ent} {leaf : Bool} {seen : List Int} {m : List Ent} {s2 : List Int} (h : nodeA rd x leaf seen = .ok (m, s2)) : x.phys ∉ seen ∧ s2 = x.phys :: seen ∧ NodeOk m leaf ∧ (rd x.phys).2 = 0 ∧ decN (rd x.phys).1 = some (m, leaf) ∧ (eat m 0).log = x.log := by
 unfold nodeA at h
 split at h
 ·cases h
 ·rename_i h1
  split at h
  ·cases h
  ·rename_i h2
   cases hd : decN (rd x.phys).1 with
   | none => rw [hd] at h; cases h
   | some q =>
     obtain ⟨m', is⟩ := q;rw [hd] at h;dsimp only at h
     split at h
     ·rename_i h3
      injection h with h
      injection h with e1 e2
      subst e1;obtain ⟨rfl, h4⟩ := h3;exact ⟨h1, e2.symm, (decN_some hd).1, by rw [Decidable.not_not] at h2; exact h2, rfl, h4⟩
     ·cases h
structure FoldRel (r : Nat) (p : List Ent) (S : Shp) (seen : List Int) (S' : Shp) (seen' : List Int) : Prop where
 len : S'.length = S.length
 up : ∀ k, r < k → rowA S' k = rowA S k
 ex : ∃ N : Nat → List (List Ent), (∀ k, k ≤ r → rowA S' k = rowA S k ++ N k) ∧ (N r).length = p.length ∧ (∀ k, k ≤ r → ∀ x ∈ N k, NodeOk x (k == 0)) ∧ (∀ k, k < r → (N (k + 1)).flatten.length = (N k).length) ∧ seen'.Perm (p.map Ent.phys ++ ((List.range r).flatMap (fun k => (N (k + 1)).flatten.map Ent.phys) ++ seen))
 nd : seen.Nodup → seen'.Nodup
theorem flatMap_congr' {α β : Type} {l : List α} {f g : α → List β} (h : ∀ x ∈ l, f x = g x) : l.flatMap f = l.flatMap g := by
 induction l with
 | nil => rfl
 | cons x l ih => rw [List.flatMap_cons, List.flatMap_cons, h x (List.mem_cons_self ..), ih fun y hy => h y (List.mem_cons_of_mem _ hy)]
theorem flatMap_app_perm {α β : Type} (l : List α) (f g : α → List β) : (l.flatMap fun x => f x ++ g x).Perm (l.flatMap f ++ l.flatMap g) := by
 induction l with
 | nil => exact List.Perm.refl _
 | cons x l ih =>
   simp only [List.flatMap_cons];refine (List.Perm.append_left _ ih).trans ?_;simp only [List.append_assoc];refine List.Perm.append_left _ ?_;rw [← List.append_assoc, ← List.append_assoc];exact List.Perm.append_right _ List.perm_append_comm
theorem flatMap_none {α β : Type} (l : List α) : l.flatMap (fun _ => ([] : List β)) = [] := by induction l <;> simp_all
theorem take_rel (rd : Rd) : ∀ (r : Nat) (l : List Ent) (S : Shp) (seen : List Int) (S' : Shp) (seen' : List Int), r < S.length → takeA rd r l (S, seen) = .ok (S', seen') → TakeRel r l S seen S' seen'
 | 0, l, S, seen, S', seen', hr, h => by
   unfold takeA at h
   injection h with h
   injection h with e1 e2
   subst e1 e2;refine ⟨by unfold pushA; rw [List.length_modify], fun k hk => push_row_ne S (by omega) l, ⟨fun k => if k = 0 then [l] else [], fun k hk => ?_, rfl, fun k hk => by omega, by simp⟩, id⟩
   obtain rfl : k = 0 := by omega
   exact push_row hr l
 | r + 1, l, S, seen, S', seen', hr, h => by
   unfold takeA at h
   have key : ∀ (q p : List Ent) (Sc : Shp) (sc : List Int), FoldRel r p (pushA S (r + 1) l) seen Sc sc → q.foldlM (fun st x => match nodeA rd x (r == 0) st.2 with
    | .error e => .error e
    | .ok (m, seen) => takeA rd r m (st.1, seen)) (Sc, sc) = (.ok (S', seen') : Except Int _) → FoldRel r (p ++ q) (pushA S (r + 1) l) seen S' seen' := fun q => by
    induction q with
    | nil =>
      intro p Sc sc hp he;rw [List.foldlM_nil] at he
      injection he with he
      injection he with e1 e2
      subst e1 e2;rw [List.append_nil]; exact hp
    | cons x q ih =>
      intro p Sc sc hp he;rw [List.foldlM_cons] at he;dsimp only at he
      cases hn : nodeA rd x (r == 0) sc with
      | error e => rw [hn] at he; cases he
      | ok y =>
        obtain ⟨m, s2⟩ := y;rw [hn] at he;dsimp only at he;obtain ⟨n1, n2, n3, -, -, -⟩ := nodeA_some hn
        cases ht : takeA rd r m (Sc, s2) with
        | error e => rw [ht] at he; cases he
        | ok z =>
          obtain ⟨S3, s3⟩ := z;rw [ht] at he
          have hlen : Sc.length = S.length := by rw [hp.len]; unfold pushA; rw [List.length_modify]
          have IH := take_rel rd r m Sc s2 S3 s3 (by omega) ht;have := ih (p ++ [x]) S3 s3 ?_ he
          ·rw [List.append_assoc] at this; exact this
          obtain ⟨N, a1, a2, a3, a4, a5⟩ := hp.ex;obtain ⟨M, b1, b2, b3, b4⟩ := IH.ex;subst n2;refine ⟨IH.len.trans hp.len, fun k hk => (IH.up k hk).trans (hp.up k hk), ⟨fun k => N k ++ M k, fun k hk => ?_, ?_, fun k hk y hy => ?_, fun k hk => ?_, ?_⟩, fun hs => ?_⟩
          ·rw [b1 k hk, a1 k hk, List.append_assoc]
          ·rw [List.length_append, a2, b2]; simp
          ·rcases List.mem_append.1 hy with hy | hy
           ·exact a3 k hk y hy
           ·by_cases e : k = r
            ·subst e
             rw [b2, List.mem_singleton] at hy;subst hy; exact n3
            ·exact (b3 k (by omega)).2 y hy
          ·dsimp only
           rw [List.flatten_append, List.length_append, List.length_append, a4 k hk, (b3 k hk).1]
          ·refine b4.trans ?_
           have e1 : ((List.range r).flatMap fun k => ((N (k + 1) ++ M (k + 1)).flatten).map Ent.phys) = (List.range r).flatMap fun k => (N (k + 1)).flatten.map Ent.phys ++ (M (k + 1)).flatten.map Ent.phys := flatMap_congr' fun k _ => by rw [List.flatten_append, List.map_append]
           dsimp only;rw [e1];refine List.Perm.trans ?_ (List.Perm.append_left _ (List.Perm.append_right _ (flatMap_app_perm _ _ _).symm));refine (List.Perm.append_left _ (List.Perm.cons _ a5)).trans ?_;rw [List.map_append, List.map_singleton];have hc := List.perm_append_comm (l₁ := (List.range r).flatMap fun k => (M (k + 1)).flatten.map Ent.phys) (l₂ := x.phys :: (p.map Ent.phys ++ ((List.range r).flatMap (fun k => (N (k + 1)).flatten.map Ent.phys) ++ seen)));refine hc.trans ?_
           have h2 : (x.phys :: (p.map Ent.phys ++ ((List.range r).flatMap (fun k => (N (k + 1)).flatten.map Ent.phys) ++ seen))).Perm (p.map Ent.phys ++ [x.phys] ++ ((List.range r).flatMap (fun k => (N (k + 1)).flatten.map Ent.phys) ++ seen)) := by
            rw [List.append_assoc];exact List.perm_middle.symm
           refine (List.Perm.append_right _ h2).trans ?_;simp only [List.append_assoc];refine List.Perm.append_left _ (List.Perm.append_left _ (List.Perm.append_left _ ?_));exact List.perm_append_comm
          ·exact IH.nd (List.nodup_cons.2 ⟨n1, hp.nd hs⟩)
   have h0 : FoldRel r [] (pushA S (r + 1) l) seen (pushA S (r + 1) l) seen := ⟨rfl, fun _ _ => rfl, ⟨fun _ => [], fun k hk => (by simp), rfl, fun k hk x hx => (by cases hx), fun k hk => rfl, (by simp [flatMap_none])⟩, id⟩;have hF := key l [] _ _ h0 h;rw [List.nil_append] at hF;obtain ⟨N, a1, a2, a3, a4, a5⟩ := hF.ex
   have hpl : (pushA S (r + 1) l).length = S.length := by unfold pushA; rw [List.length_modify]
   refine ⟨hF.len.trans hpl, fun k hk => (hF.up k (by omega)).trans (push_row_ne S (by omega) l), ⟨fun k => if k = r + 1 then [l] else N k, fun k hk => ?_, if_pos rfl, fun k hk => ?_, ?_⟩, hF.nd⟩
   ·by_cases e : k = r + 1
    ·subst e
     dsimp only;rw [if_pos rfl, hF.up _ (Nat.lt_succ_self _), push_row hr l]
    ·dsimp only
     rw [if_neg e, a1 k (by omega), push_row_ne S e l]
   ·dsimp only
    rw [if_neg (show ¬ k = r + 1 by omega)];refine ⟨?_, a3 k (by omega)⟩;by_cases e : k = r
    ·subst e
     rw [if_pos rfl, a2]; simp
    ·rw [if_neg (by omega), a4 k (by omega)]
   ·refine a5.trans ?_
    rw [List.range_succ, List.flatMap_append]
    have e1 : ((List.range r).flatMap fun k => ((if k + 1 = r + 1 then [l] else N (k + 1)).flatten).map Ent.phys) = (List.range r).flatMap fun k => (N (k + 1)).flatten.map Ent.phys := flatMap_congr' fun k hk => by
     rw [List.mem_range] at hk;rw [if_neg (by omega)]
    rw [e1];simp only [List.flatMap_cons, List.flatMap_nil, if_true, List.flatten_cons, List.flatten_nil, List.append_nil];rw [← List.append_assoc];exact List.Perm.append_right _ List.perm_append_comm
structure GoodS (S : Shp) : Prop where
 well : WellS S
 rise : RowOk true (listA S)
 free : hitA (listA S) (numsA S) = false
 nd : (numsA S).Nodup
 nodes : ∀ r, r + 1 < S.length → ∀ x ∈ rowA S r, NodeOk x (r == 0)
theorem loadA_good {rd : Rd} {no : Bool} {depth : Int} {root : List Ent} {S : Shp} (h : loadA rd no depth root = .ok S) : GoodS S ∧ (S.length : Int) = depth + 1 ∧ rowA S (S.length - 1) = [root] := by
 unfold loadA at h
 split at h
 ·rename_i hk
  have hd : 0 ≤ depth := by
   have := hk.1;unfold RootedA at this;rw [ok_kindN (by show (1 : Int) ≠ 0; decide)] at this;unfold Full at this;exact this.2.2.2.1.1
  obtain ⟨D, rfl⟩ := Int.eq_ofNat_of_zero_le hd;rw [Int.toNat_natCast] at h
  cases ht : takeA rd D root (List.replicate (D + 1) [], []) with
  | error e => rw [ht] at h; cases h
  | ok q =>
    obtain ⟨S2, s2⟩ := q;rw [ht] at h;dsimp only at h
    split at h
    ·rename_i h2
     injection h with h
     subst h;have T := take_rel rd D root _ _ _ _ (by rw [List.length_replicate]; omega) ht
     have hl : S2.length = D + 1 := by rw [T.len, List.length_replicate]
     obtain ⟨N, a1, a2, a3, a4⟩ := T.ex
     have hrep : ∀ k, rowA (List.replicate (D + 1) ([] : List (List Ent))) k = [] := fun k => by
      unfold rowA; rw [List.getElem?_replicate]; split <;> rfl
     have hrow : ∀ k, k ≤ D → rowA S2 k = N k := fun k hk => by rw [a1 k hk, hrep, List.nil_append]
     have hhead : ∀ k, k < D → headsA S2 k = (N (k + 1)).flatten := fun k hk => by unfold headsA; rw [hrow _ (by omega)]
     refine ⟨⟨⟨by omega, fun r hr => ?_, fun r hr x hx => ?_, ?_⟩, h2.1, h2.2, ?_, fun r hr x hx => ?_⟩, by omega, ?_⟩
     ·rw [hhead r (by omega), hrow r (by omega), (a3 r (by omega)).1]
     ·rw [hrow r (by omega)] at hx; exact ((a3 r (by omega)).2 x hx).1
     ·rw [hl, Nat.add_sub_cancel, hrow D (Nat.le_refl _), a2]; rfl
     ·have hp : s2.Perm (numsA S2) := by
       refine a4.trans ?_;rw [List.append_nil];unfold numsA;rw [hl, List.range_succ, List.flatMap_append]
       have e0 : headsA S2 D = [] := by
        unfold headsA rowA; rw [List.getElem?_eq_none (by omega)]; rfl
       simp only [List.flatMap_cons, List.flatMap_nil, e0, List.map_nil, List.append_nil];exact List.Perm.of_eq (flatMap_congr' fun k hk => by rw [List.mem_range] at hk; rw [hhead k hk])
      exact hp.nodup_iff.1 (T.nd List.nodup_nil)
     ·rw [hrow r (by omega)] at hx; exact (a3 r (by omega)).2 x hx
     ·rw [hl, Nat.add_sub_cancel, hrow D (Nat.le_refl _), a2]
    ·cases h
 ·cases h
theorem Stacked.heads_sub {old : Shp} (hw : WellS old) {ch : Choose} (hch : ∀ ns l, SpanFl ns l (ch ns l)) {r : Nat} {l : List Ent} {S : Shp} (h : Stacked old ch r l S) : ∀ q, (physT (headsA S q)).Sublist ((headsA old (r + q)).map Ent.phys) := by
 induction h with
 | top r l h =>
   intro q
   have : headsA [[l]] q = [] := by unfold headsA rowA; simp
   rw [this]; simp [physT]
 | row r l S h k ih =>
   intro q
   cases q with
   | zero =>
     have e1 : headsA (packN (oldN old r) l (ch (oldN old r) l) :: S) 0 = packH (headsA old r) l (ch (oldN old r) l) := by
      rw [← k.first hch]; unfold headsA rowA; simp
     rw [e1];exact packH_sub (hch _ _).ok (hw.old r).1
   | succ q =>
     rw [heads_cons, show r + (q + 1) = r + 1 + q by omega];exact ih q
theorem flatMap_sub {α β : Type} {f g : α → List β} : ∀ (l : List α), (∀ x ∈ l, (f x).Sublist (g x)) → (l.flatMap f).Sublist (l.flatMap g)
 | [], _ => by simp
 | x :: l, h => by
   rw [List.flatMap_cons, List.flatMap_cons];exact List.Sublist.append (h x (List.mem_cons_self ..)) (flatMap_sub l fun y hy => h y (List.mem_cons_of_mem _ hy))
theorem flatMap_range {β : Type} (g : Nat → List β) (n m : Nat) (h0 : ∀ k, m ≤ k → g k = []) : ((List.range n).flatMap g).Sublist ((List.range m).flatMap g) := by
 induction n with
 | zero => simp
 | succ n ih =>
   by_cases hn : n < m
   ·have e : List.range m = List.range (n + 1) ++ (List.range m).drop (n + 1) := by
     conv => lhs; rw [← List.take_append_drop (n + 1) (List.range m)]
     congr 1;rw [List.take_range]; congr 1; omega
    rw [e, List.flatMap_append];exact List.sublist_append_left _ _
   ·rw [List.range_succ, List.flatMap_append]
    simp only [List.flatMap_cons, List.flatMap_nil, List.append_nil, h0 n (by omega)];exact ih
theorem heads_past {S : Shp} {q : Nat} (h : S.length ≤ q + 1) : headsA S q = [] := by unfold headsA; rw [row_past h]; rfl
theorem Stacked.nums_sub {old : Shp} (hw : WellS old) {ch : Choose} (hch : ∀ ns l, SpanFl ns l (ch ns l)) {l : List Ent} {S : Shp} (h : Stacked old ch 0 l S) : ((numsA S).filter fun b => decide (b ≠ 0)).Sublist (numsA old) := by
 unfold numsA;rw [List.filter_flatMap];refine (flatMap_sub (g := fun r => (headsA old r).map Ent.phys) _ fun q _ => ?_).trans (flatMap_range _ _ _ fun k hk => by rw [heads_past (by omega)]; rfl);have := h.heads_sub hw hch q;rw [Nat.zero_add] at this;exact this
theorem grow_nums {old : Shp} (hw : WellS old) (L : List Ent) : ((numsA (growA old L)).filter fun b => decide (b ≠ 0)).Sublist (numsA old) := by
 unfold growA;split
 ·exact List.filter_sublist
 ·split
  ·exact (stackA_is hw (ch := spanAll) span_all L).nums_sub hw fl_all
  ·exact (stackA_is hw (ch := unlikeA) span_unlike L).nums_sub hw fl_unlike
theorem grow_nodup {old : Shp} (hg : GoodS old) (L : List Ent) : ((numsA (growA old L)).filter fun b => decide (b ≠ 0)).Nodup := (grow_nums hg.well L).nodup hg.nd
theorem all_ents (S : Shp) : ∀ (n : Nat), S.length = n + 1 → S.flatten.flatten = listA S ++ (List.range n).flatMap (headsA S) := by
 intro n hn
 have h : ∀ k, k ≤ n → (S.take (k + 1)).flatten.flatten = listA S ++ (List.range k).flatMap (headsA S) := by
  intro k
  induction k with
  | zero =>
    intro _
    cases S with
    | nil => simp at hn
    | cons x S => simp [listA, rowA]
  | succ k ih =>
    intro hk;rw [List.take_succ_eq_append_getElem (by omega : k + 1 < S.length), List.flatten_append, List.flatten_append, ih (by omega), List.range_succ, List.flatMap_append, List.append_assoc];congr 2;simp only [List.flatMap_cons, List.flatMap_nil, List.append_nil, List.flatten_cons, List.flatten_nil];unfold headsA rowA;rw [List.getElem?_eq_getElem (by omega : k + 1 < S.length)];rfl
 have := h n (Nat.le_refl _);rw [List.take_of_length_le (by omega)] at this;exact this
theorem heads_nums (S : Shp) (n : Nat) (hn : S.length = n + 1) : ((List.range n).flatMap (headsA S)).map Ent.phys = numsA S := by
 unfold numsA;rw [hn, List.range_succ, List.flatMap_append, List.map_flatMap];simp only [List.flatMap_cons, List.flatMap_nil, List.append_nil];rw [heads_past (by omega : S.length ≤ n + 1)]
 simp
end Go.Proofs.YtknefoemgifbfaaGreat
