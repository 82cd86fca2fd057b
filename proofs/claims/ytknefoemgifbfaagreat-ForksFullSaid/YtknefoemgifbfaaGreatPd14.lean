import Derived.Test.YtknefoemgifbfaaGreatPd10
import Derived.Test.YtknefoemgifbfaaGreatPd13
set_option linter.unusedVariables false
set_option linter.unusedSimpArgs false
set_option linter.constructorNameAsVariable false
namespace Go.Proofs.YtknefoemgifbfaaGreat
def Rise : Int → List Ent → Prop
 | _, [] => True
 | b, e :: l => b ≤ e.log ∧ EntOk true e ∧ Rise (e.log + e.len) l
theorem entT (e : Ent) : EntOk true e ↔ 1 ≤ e.len ∧ 0 ≤ e.log ∧ e.log + e.len ≤ 2048 ∧ 1 ≤ e.phys ∧ e.phys + e.len ≤ 4096 := by unfold EntOk; simp
theorem Rise.down {b c : Int} {l : List Ent} (h : Rise b l) (hc : c ≤ b) : Rise c l := by
 cases l with
 | nil => trivial
 | cons e l => exact ⟨by have := h.1; omega, h.2.1, h.2.2⟩
theorem Rise.tail {b : Int} {e : Ent} {l : List Ent} (h : Rise b (e :: l)) : Rise b l := h.2.2.down (by have := h.1; have := (entT e).1 h.2.1; omega)
theorem Rise.mem {b : Int} {l : List Ent} (h : Rise b l) : ∀ e ∈ l, EntOk true e ∧ b ≤ e.log := by
 induction l generalizing b with
 | nil => intro e he; simp at he
 | cons x l ih =>
   intro e he;rcases List.mem_cons.1 he with rfl | he
   ·exact ⟨h.2.1, h.1⟩
   ·exact ih h.tail e he
theorem rise_append {b : Int} {l m : List Ent} : Rise b (l ++ m) ↔ Rise b l ∧ ∃ c, (∀ e ∈ l, e.log + e.len ≤ c) ∧ b ≤ c ∧ Rise c m := by
 induction l generalizing b with
 | nil =>
   simp only [List.nil_append];constructor
   ·intro h; exact ⟨trivial, b, fun e he => by simp at he, Int.le_refl _, h⟩
   ·rintro ⟨-, c, -, h1, h2⟩; exact h2.down h1
 | cons x l ih =>
   show (b ≤ x.log ∧ EntOk true x ∧ Rise (x.log + x.len) (l ++ m)) ↔ _
   rw [ih];constructor
   ·rintro ⟨h1, h2, h3, c, h4, h5, h6⟩
    have := (entT x).1 h2
    exact ⟨⟨h1, h2, h3⟩, c, fun e he => by
     rcases List.mem_cons.1 he with rfl | he
     ·exact h5
     ·exact h4 e he, by omega, h6⟩
   ·rintro ⟨⟨h1, h2, h3⟩, c, h4, h5, h6⟩
    exact ⟨h1, h2, h3, c, fun e he => h4 e (by simp [he]), h4 x (by simp), h6⟩
theorem row_rise_from : ∀ (l : List Ent) (b : Int), (∀ i, i < l.length → EntOk true (eat l i) ∧ (0 < i → After (eat l (i - 1)) (eat l i))) → (0 < l.length → b ≤ (eat l 0).log) → Rise b l
 | [], _, _, _ => trivial
 | e :: l, b, h, h0 => by
   refine ⟨h0 (by simp), (h 0 (by simp)).1, row_rise_from l _ (fun i hi => ?_) (fun hl => ?_)⟩
   ·have := h (i + 1) (by simp; omega)
    refine ⟨this.1, fun hp => ?_⟩;have h2 := this.2 (by omega)
    have e1 : eat (e :: l) (i + 1 - 1) = eat l (i - 1) := by
     rw [show i + 1 - 1 = (i - 1) + 1 by omega]; rfl
    rw [e1] at h2; exact h2
   ·have := (h 1 (by simp; omega)).2 (by omega)
    exact this.2
theorem row_rise_to : ∀ (l : List Ent) (b : Int), Rise b l → ∀ i, i < l.length → EntOk true (eat l i) ∧ (0 < i → After (eat l (i - 1)) (eat l i))
 | [], _, _, i, hi => by simp at hi
 | e :: l, b, h, 0, _ => ⟨h.2.1, fun h0 => by omega⟩
 | e :: l, b, h, i + 1, hi => by
   have hi' : i < l.length := by simpa using hi
   have := row_rise_to l _ h.2.2 i hi';refine ⟨this.1, fun _ => ?_⟩
   cases i with
   | zero =>
     show After e (eat l 0)
     have hm := (h.2.2.mem (eat l 0) (by rw [eat_eq hi']; exact List.getElem_mem _)).2;have := (entT e).1 h.2.1;exact ⟨by omega, hm⟩
   | succ i => exact this.2 (by omega)
theorem row_rise (l : List Ent) : RowOk true l ↔ Rise 0 l := by
 constructor
 ·intro h
  refine row_rise_from l 0 h fun hl => ?_;exact ((entT _).1 (h 0 hl).1).2.1
 ·intro h; exact row_rise_to l 0 h
def inE (e : Ent) (p : Int) : Prop := e.log ≤ p ∧ p < e.log + e.len
instance (e : Ent) (p : Int) : Decidable (inE e p) := by unfold inE; infer_instance
def findE (l : List Ent) (p : Int) : Option Ent := l.find? fun e => decide (inE e p)
def mapX (l : List Ent) (p : Int) : Option Int := (findE l p).map fun e => e.phys + p - e.log
theorem mapX_nil (p : Int) : mapX [] p = none := rfl
theorem mapX_cons (e : Ent) (l : List Ent) (p : Int) : mapX (e :: l) p = if inE e p then some (e.phys + p - e.log) else mapX l p := by
 unfold mapX findE;rw [List.find?_cons];by_cases h : inE e p
 ·rw [if_pos h, decide_eq_true h]; rfl
 ·rw [if_neg h, decide_eq_false h]
theorem mapX_low {b : Int} {l : List Ent} (h : Rise b l) {p : Int} (hp : p < b) : mapX l p = none := by
 induction l generalizing b with
 | nil => rfl
 | cons e l ih =>
   have := (entT e).1 h.2.1;have h1 := h.1;rw [mapX_cons, if_neg (by unfold inE; omega)];exact ih h.2.2 (by omega)
theorem mapX_high {l : List Ent} {c p : Int} (h : ∀ e ∈ l, e.log + e.len ≤ c) (hp : c ≤ p) : mapX l p = none := by
 induction l with
 | nil => rfl
 | cons e l ih =>
   have := h e (by simp);rw [mapX_cons, if_neg (by unfold inE; omega)];exact ih fun x hx => h x (by simp [hx])
theorem mapX_append (l m : List Ent) (p : Int) : mapX (l ++ m) p = (mapX l p).or (mapX m p) := by
 induction l with
 | nil => rfl
 | cons e l ih =>
   rw [List.cons_append, mapX_cons, mapX_cons];by_cases h : inE e p
   ·rw [if_pos h, if_pos h]; rfl
   ·rw [if_neg h, if_neg h, ih]
theorem mapX_mem {b : Int} {l : List Ent} (h : Rise b l) {e : Ent} (he : e ∈ l) {p : Int} (hp : inE e p) : mapX l p = some (e.phys + p - e.log) := by
 induction l generalizing b with
 | nil => simp at he
 | cons x l ih =>
   rw [mapX_cons];rcases List.mem_cons.1 he with rfl | he
   ·rw [if_pos hp]
   ·have := (h.2.2.mem e he).2
    rw [if_neg (by unfold inE at *; omega)];exact ih h.2.2 he
def phR (e : Ent) : Int × Int := (e.phys, e.len)
def physR (l : List Ent) : List (Int × Int) := l.map phR
theorem phR_in {e : Ent} (h : EntOk true e) (i : Int) : inR (phR e) i ↔ e.phys ≤ i ∧ i < e.phys + e.len := by
 have := (entT e).1 h;unfold inR okR phR;constructor
 ·rintro ⟨_, h1, h2⟩; exact ⟨h1, h2⟩
 ·rintro ⟨h1, h2⟩; exact ⟨by omega, h1, h2⟩
theorem elem_map {b : Int} {l : List Ent} (h : Rise b l) (i : Int) : elemR (physR l) i ↔ ∃ p, mapX l p = some i := by
 constructor
 ·rintro ⟨r, hr, hi⟩
  unfold physR at hr;rw [List.mem_map] at hr;obtain ⟨e, he, rfl⟩ := hr;rw [phR_in (h.mem e he).1] at hi;refine ⟨e.log + (i - e.phys), ?_⟩;rw [mapX_mem h he (by unfold inE; omega)];congr 1; omega
 ·rintro ⟨p, hp⟩
  unfold mapX at hp;rw [Option.map_eq_some_iff] at hp;obtain ⟨e, he, rfl⟩ := hp;have hm := List.mem_of_find?_eq_some he;have hin := List.find?_some he;rw [decide_eq_true_eq] at hin;refine ⟨phR e, List.mem_map_of_mem (f := phR) hm, ?_⟩;rw [phR_in (h.mem e hm).1];unfold inE at hin;omega
def blocksX (l : List Ent) : List (Int × Int) := normR (physR l)
def endX (l : List Ent) : Int := match l.getLast? with
 | none => 0
 | some e => e.log + e.len
def countX : List Ent → Int
 | [] => 0
 | e :: l => e.len + countX l
theorem endX_snoc (l : List Ent) (e : Ent) : endX (l ++ [e]) = e.log + e.len := by unfold endX; rw [List.getLast?_append]; rfl
def part (x : Ent) (a b : Int) : Option Ent := if max a x.log < min b (x.log + x.len) then some ⟨max a x.log, x.phys + max a x.log - x.log, min b (x.log + x.len) - max a x.log⟩ else none
def keep (l : List Ent) (a b : Int) : List Ent := l.filterMap fun x => part x a b
theorem keep_nil (a b : Int) : keep [] a b = [] := rfl
theorem keep_cons (x : Ent) (l : List Ent) (a b : Int) : keep (x :: l) a b = (part x a b).toList ++ keep l a b := by
 unfold keep;rw [List.filterMap_cons]
 cases part x a b <;> rfl
theorem part_some {x y : Ent} {a b : Int} (h : part x a b = some y) : y.log = max a x.log ∧ y.phys = x.phys + max a x.log - x.log ∧ y.len = min b (x.log + x.len) - max a x.log ∧ max a x.log < min b (x.log + x.len) := by
 unfold part at h;by_cases hc : max a x.log < min b (x.log + x.len)
 ·rw [if_pos hc] at h
  have := Option.some.inj h;subst this;exact ⟨rfl, rfl, rfl, hc⟩
 ·rw [if_neg hc] at h; cases h
theorem part_none {x : Ent} {a b : Int} (h : part x a b = none) : min b (x.log + x.len) ≤ max a x.log := by
 unfold part at h;by_cases hc : max a x.log < min b (x.log + x.len)
 ·rw [if_pos hc] at h; cases h
 ·omega
theorem part_ok {x y : Ent} {a b : Int} (hx : EntOk true x) (h : part x a b = some y) : EntOk true y ∧ x.log ≤ y.log ∧ a ≤ y.log ∧ y.log + y.len ≤ b ∧ y.log + y.len ≤ x.log + x.len := by
 obtain ⟨h1, h2, h3, h4⟩ := part_some h;have hk := (entT x).1 hx;rw [entT];omega
theorem part_whole {x : Ent} {a b : Int} (hx : EntOk true x) (h1 : a ≤ x.log) (h2 : x.log + x.len ≤ b) : part x a b = some x := by
 have hk := (entT x).1 hx;unfold part;rw [if_pos (by omega)];congr 1;exact Ent.ext' (by show max a x.log = _; omega) (by show x.phys + max a x.log - x.log = _; omega) (by show min b (x.log + x.len) - max a x.log = _; omega)
theorem keep_rise {b : Int} {l : List Ent} (h : Rise b l) (c d : Int) : Rise (max b c) (keep l c d) ∧ ∀ e ∈ keep l c d, e.log + e.len ≤ d := by
 induction l generalizing b with
 | nil => exact ⟨trivial, fun e he => by rw [keep_nil] at he; simp at he⟩
 | cons x l ih =>
   obtain ⟨h1, h2⟩ := ih h.2.2;have hx := (entT x).1 h.2.1;have hb := h.1;rw [keep_cons]
   cases hp : part x c d with
   | none =>
     refine ⟨h1.down (by omega), fun e he => h2 e ?_⟩
     simpa using he
   | some y =>
     obtain ⟨k1, k2, k3, k4, k5⟩ := part_ok h.2.1 hp;refine ⟨⟨by omega, k1, h1.down (by omega)⟩, fun e he => ?_⟩;rcases List.mem_cons.1 he with rfl | he
     ·exact k4
     ·exact h2 e he
theorem keep_all {b : Int} {l : List Ent} (h : Rise b l) {c d : Int} (hc : c ≤ b) (hd : ∀ e ∈ l, e.log + e.len ≤ d) : keep l c d = l := by
 induction l generalizing b with
 | nil => rfl
 | cons x l ih =>
   rw [keep_cons, part_whole h.2.1 (by have := h.1; omega) (hd x (by simp)), ih (h.2.2) (by have := (entT x).1 h.2.1; have := h.1; omega) (fun e he => hd e (by simp [he]))]; rfl
theorem keep_empty (l : List Ent) {c d : Int} (h : d ≤ c) : keep l c d = [] := by
 induction l with
 | nil => rfl
 | cons x l ih =>
   rw [keep_cons, ih];unfold part;rw [if_neg (by omega)]; rfl
theorem mapX_keep {b : Int} {l : List Ent} (h : Rise b l) (c d p : Int) : mapX (keep l c d) p = if c ≤ p ∧ p < d then mapX l p else none := by
 induction l generalizing b with
 | nil => rw [keep_nil, mapX_nil]; split <;> rfl
 | cons x l ih =>
   rw [keep_cons];have hx := (entT x).1 h.2.1;have ih := ih h.2.2
   cases hp : part x c d with
   | none =>
     have hn := part_none hp
     show mapX (keep l c d) p = _
     rw [ih];by_cases hc : c ≤ p ∧ p < d
     ·rw [if_pos hc, if_pos hc, mapX_cons, if_neg (by unfold inE; omega)]
     ·rw [if_neg hc, if_neg hc]
   | some y =>
     obtain ⟨h1, h2, h3, h4⟩ := part_some hp
     show mapX (y :: keep l c d) p = _
     rw [mapX_cons, ih];by_cases hc : c ≤ p ∧ p < d
     ·rw [if_pos hc, if_pos hc, mapX_cons]
      by_cases hi : inE x p
      ·rw [if_pos hi, if_pos (by unfold inE at *; omega), h1, h2]; congr 1; omega
      ·rw [if_neg hi, if_neg (by unfold inE at *; omega)]
     ·rw [if_neg hc, if_neg hc, if_neg (by unfold inE; omega)]
def change (l : List Ent) (a b : Int) (m : List Ent) : List Ent := keep l 0 a ++ (m ++ keep l b 2048)
def freedX (l out : List Ent) : List (Int × Int) := minusR (physR l) (physR out)
theorem change_rise {l : List Ent} (h : Rise 0 l) {a b : Int} (h0 : 0 ≤ a) (hab : a ≤ b) {m : List Ent} (hm : Rise a m) (hmb : ∀ e ∈ m, e.log + e.len ≤ b) : Rise 0 (change l a b m) := by
 unfold change;have k1 := keep_rise h 0 a;have k2 := keep_rise h b 2048;refine rise_append.2 ⟨k1.1.down (by omega), a, k1.2, h0, rise_append.2 ⟨hm, b, hmb, hab, k2.1.down (by omega)⟩⟩
theorem change_map {l : List Ent} (h : Rise 0 l) {a b : Int} (h0 : 0 ≤ a) (hab : a ≤ b) {m : List Ent} (hm : Rise a m) (hmb : ∀ e ∈ m, e.log + e.len ≤ b) (p : Int) :
 mapX (change l a b m) p = if a ≤ p ∧ p < b then mapX m p else mapX l p := by
 unfold change;rw [mapX_append, mapX_append, mapX_keep h, mapX_keep h];by_cases h1 : a ≤ p ∧ p < b
 ·rw [if_pos h1, if_neg (by omega), if_neg (by omega)]
  cases mapX m p <;> rfl
 ·rw [if_neg h1]
  by_cases h2 : p < a
  ·rw [if_neg (show ¬ (b ≤ p ∧ p < 2048) by omega), mapX_low hm h2]
   by_cases h3 : 0 ≤ p
   ·rw [if_pos ⟨h3, h2⟩]; cases mapX l p <;> rfl
   ·rw [if_neg (by omega), mapX_low h (by omega)]; rfl
  ·rw [if_neg (by omega), mapX_high hmb (by omega)]
   by_cases h3 : p < 2048
   ·rw [if_pos (by omega)]; rfl
   ·rw [if_neg (by omega), mapX_high (c := 2048) (fun e he => by have := (entT e).1 (h.mem e he).1; omega) (by omega)]; rfl
def putX (l : List Ent) (x : Ent) : List Ent := change l x.log (x.log + x.len) [x]
theorem punch_rise {l : List Ent} (h : Rise 0 l) {a b : Int} (h0 : 0 ≤ a) (hab : a ≤ b) : Rise 0 (change l a b []) := change_rise (m := []) h h0 hab trivial (fun e he => by simp at he)
theorem freed_elem (l out : List Ent) (i : Int) : elemR (freedX l out) i ↔ elemR (physR l) i ∧ ¬ elemR (physR out) i := minus_elem _ _ i
def fore (x : Ent) (c : Int) : Ent := ⟨x.log, x.phys, c⟩
def hind (x : Ent) (c : Int) : Ent := ⟨x.log + c, x.phys + c, x.len - c⟩
def joinStep (out : List Ent) (e : Ent) : List Ent := match out.getLast? with
 | none => [e]
 | some q => if q.log + q.len = e.log ∧ q.phys + q.len = e.phys then out.dropLast ++ [⟨q.log, q.phys, q.len + e.len⟩] else out ++ [e]
def joinX (l : List Ent) : List Ent := l.foldl joinStep []
theorem ent_snoc_cases (l : List Ent) : l = [] ∨ ∃ m q, l = m ++ [q] := by
 rcases List.eq_nil_or_concat l with h | ⟨m, q, h⟩
 ·exact .inl h
 ·exact .inr ⟨m, q, by simpa using h⟩
theorem rise_end {b : Int} {l : List Ent} (h : Rise b l) : ∀ e ∈ l, e.log + e.len ≤ endX l := by
 rcases ent_snoc_cases l with rfl | ⟨m, q, rfl⟩
 ·intro e he; simp at he
 ·intro e he
  rw [endX_snoc];obtain ⟨h1, c, h2, h3, h4⟩ := rise_append.1 h;have hq := (entT q).1 h4.2.1;rcases List.mem_append.1 he with he | he
  ·have := h2 e he; have := h4.1; omega
  ·simp at he; subst he; exact Int.le_refl _
theorem endX_le {l : List Ent} {c : Int} (h : ∀ e ∈ l, e.log + e.len ≤ c) (hc : 0 ≤ c) : endX l ≤ c := by
 rcases ent_snoc_cases l with rfl | ⟨m, q, rfl⟩
 ·exact hc
 ·rw [endX_snoc]; exact h q (by simp)
def backX (l : List Ent) (k i : Nat) : List Ent := if i ≤ l.length - k then (l.drop k).take i else l.take (i - (l.length - k)) ++ l.drop k
theorem freed_self (l : List Ent) : freedX l l = [] := by
 refine norm_one (minus_norm _ _) (Norm.nil (-1)) fun i => ?_
 show elemR (freedX l l) i ↔ _
 rw [freed_elem];exact ⟨fun q => absurd q.1 q.2, fun q => absurd q (elemR_nil i)⟩
theorem keep_elem {b0 : Int} {l : List Ent} (h : Rise b0 l) (c d : Int) (i : Int) : elemR (physR (keep l c d)) i ↔ ∃ p, c ≤ p ∧ p < d ∧ mapX l p = some i := by
 rw [elem_map (keep_rise h c d).1];constructor
 ·rintro ⟨p, hp⟩
  rw [mapX_keep h] at hp;by_cases k : c ≤ p ∧ p < d
  ·rw [if_pos k] at hp; exact ⟨p, k.1, k.2, hp⟩
  ·rw [if_neg k] at hp; cases hp
 ·rintro ⟨p, h1, h2, hp⟩
  exact ⟨p, by rw [mapX_keep h, if_pos ⟨h1, h2⟩]; exact hp⟩
section
variable {l : List Ent} {a b : Int} {m : List Ent}
theorem lost_same (h : Rise 0 l) (h0 : 0 ≤ a) (hab : a ≤ b) (hm : Rise a m) (hmb : ∀ e ∈ m, e.log + e.len ≤ b) : minusR (blocksX (keep l a b)) (blocksX (change l a b m)) = freedX l (change l a b m) := by
 refine norm_one (minus_norm _ _) (minus_norm _ _) fun i => ?_
 show elemR (minusR _ _) i ↔ elemR (freedX _ _) i
 rw [minus_elem, freed_elem];unfold blocksX;rw [norm_elem, norm_elem, keep_elem h, elem_map h];constructor
 ·rintro ⟨⟨p, -, -, hp⟩, hn⟩; exact ⟨⟨p, hp⟩, hn⟩
 ·rintro ⟨⟨p, hp⟩, hn⟩
  refine ⟨?_, hn⟩;by_cases k : a ≤ p ∧ p < b
  ·exact ⟨p, k.1, k.2, hp⟩
  ·exfalso
   refine hn ((elem_map (change_rise h h0 hab hm hmb) i).2 ⟨p, ?_⟩);rw [change_map h h0 hab hm hmb, if_neg k]; exact hp
theorem lost_nothing (h : Rise 0 l) (h0 : 0 ≤ a) (hab : a ≤ b) (hm : Rise a m) (hmb : ∀ e ∈ m, e.log + e.len ≤ b) (he : keep l a b = []) : freedX l (change l a b m) = [] := by
 rw [← lost_same h h0 hab hm hmb, he];refine norm_one (minus_norm _ _) (Norm.nil (-1)) fun i => ?_
 show elemR (minusR _ _) i ↔ _
 rw [minus_elem];unfold blocksX;rw [norm_elem];exact ⟨fun q => absurd q.1 (elemR_nil i), fun q => absurd q (elemR_nil i)⟩
end
def lostX (R O : List Ent) : List (Int × Int) := if R.length = 0 then [] else minusR (blocksX R) (blocksX O)
theorem lostX_is {l : List Ent} (h : Rise 0 l) {a b : Int} (h0 : 0 ≤ a) (hab : a ≤ b) {m : List Ent} (hm : Rise a m) (hmb : ∀ e ∈ m, e.log + e.len ≤ b) : lostX (keep l a b) (change l a b m) = freedX l (change l a b m) := by
 unfold lostX;by_cases he : (keep l a b).length = 0
 ·rw [if_pos he, lost_nothing h h0 hab hm hmb (List.length_eq_zero_iff.1 he)]
 ·rw [if_neg he, lost_same h h0 hab hm hmb]
def lowC (f : Int) : Int := min f 2048
def cutX (l : List Ent) (f : Int) : List Ent := change l (lowC f) 2048 []
theorem nilOk (a b : Int) : Rise a [] ∧ ∀ e ∈ ([] : List Ent), e.log + e.len ≤ b := ⟨trivial, fun e he => by simp at he⟩
theorem phys_fit {l : List Ent} (h : ∀ e ∈ l, EntOk true e) : ∀ r ∈ physR l, (-9223372036854775808 ≤ r.1 ∧ r.1 ≤ 9223372036854775807) ∧ (-9223372036854775808 ≤ r.2 ∧ r.2 ≤ 9223372036854775807) := by
 intro r hr;unfold physR at hr;obtain ⟨e, he, rfl⟩ := List.mem_map.1 hr;have := entOk_low (h e he);unfold phR;exact ⟨⟨by show _ ≤ e.phys; omega, by show e.phys ≤ _; omega⟩, by show _ ≤ e.len; omega, by show e.len ≤ _; omega⟩
theorem phys_len (l : List Ent) : (physR l).length = l.length := by unfold physR; simp
end Go.Proofs.YtknefoemgifbfaaGreat
