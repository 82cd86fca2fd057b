/- Rows of extents: what they say of places, and what is left of them: no program is named here. -/
import Derived.Test.YtgcbfiecgiijkaaEnt0
import Derived.Test.YtgcbfiecgiijkaaRMath
namespace Go.Proofs.Ytgcbfiecgiijkaa
set_option linter.unusedVariables false

/-! ### in order -/
/-- in order, from a place on -/
def Rise : Int → List Ent → Prop
  | _, [] => True
  | b, e :: l => b ≤ e.log ∧ EntOk true e ∧ Rise (e.log + e.len) l
theorem entT (e : Ent) : EntOk true e ↔ 1 ≤ e.len ∧ 0 ≤ e.log ∧ e.log + e.len ≤ 2048 ∧ 1 ≤ e.phys ∧ e.phys + e.len ≤ 4096 := by unfold EntOk; simp
theorem Rise.down {b c : Int} {l : List Ent} (h : Rise b l) (hc : c ≤ b) : Rise c l := by
  cases l with
  | nil => trivial
  | cons e l => exact ⟨by have := h.1; omega, h.2.1, h.2.2⟩
theorem Rise.tail {b : Int} {e : Ent} {l : List Ent} (h : Rise b (e :: l)) : Rise b l := h.2.2.down (by have := h.1; have := (entT e).1 h.2.1; omega)
theorem Rise.mem {b : Int} {l : List Ent} (h : Rise b l) : ∀ e ∈ l, EntOk true e ∧ b ≤ e.log := by
  induction l generalizing b with
  | nil => intro e he; simp at he
  | cons x l ih =>
    intro e he
    rcases List.mem_cons.1 he with rfl | he
    · exact ⟨h.2.1, h.1⟩
    · exact ih h.tail e he
theorem rise_append {b : Int} {l m : List Ent} : Rise b (l ++ m) ↔ Rise b l ∧ ∃ c, (∀ e ∈ l, e.log + e.len ≤ c) ∧ b ≤ c ∧ Rise c m := by
  induction l generalizing b with
  | nil =>
    simp only [List.nil_append]
    constructor
    · intro h; exact ⟨trivial, b, fun e he => by simp at he, Int.le_refl _, h⟩
    · rintro ⟨-, c, -, h1, h2⟩; exact h2.down h1
  | cons x l ih =>
    show (b ≤ x.log ∧ EntOk true x ∧ Rise (x.log + x.len) (l ++ m)) ↔ _
    rw [ih]
    constructor
    · rintro ⟨h1, h2, h3, c, h4, h5, h6⟩
      have := (entT x).1 h2
      exact ⟨⟨h1, h2, h3⟩, c, fun e he => by
        rcases List.mem_cons.1 he with rfl | he
        · exact h5
        · exact h4 e he, by omega, h6⟩
    · rintro ⟨⟨h1, h2, h3⟩, c, h4, h5, h6⟩
      exact ⟨h1, h2, h3, c, fun e he => h4 e (by simp [he]), h4 x (by simp), h6⟩
theorem row_rise_from : ∀ (l : List Ent) (b : Int), (∀ i, i < l.length → EntOk true (eat l i) ∧ (0 < i → After (eat l (i - 1)) (eat l i))) → (0 < l.length → b ≤ (eat l 0).log) → Rise b l
  | [], _, _, _ => trivial
  | e :: l, b, h, h0 => by
    refine ⟨h0 (by simp), (h 0 (by simp)).1, row_rise_from l _ (fun i hi => ?_) (fun hl => ?_)⟩
    · have := h (i + 1) (by simp; omega)
      refine ⟨this.1, fun hp => ?_⟩
      have h2 := this.2 (by omega)
      have e1 : eat (e :: l) (i + 1 - 1) = eat l (i - 1) := by
        rw [show i + 1 - 1 = (i - 1) + 1 by omega]; rfl
      rw [e1] at h2; exact h2
    · have := (h 1 (by simp; omega)).2 (by omega)
      exact this.2
theorem row_rise_to : ∀ (l : List Ent) (b : Int), Rise b l → ∀ i, i < l.length → EntOk true (eat l i) ∧ (0 < i → After (eat l (i - 1)) (eat l i))
  | [], _, _, i, hi => by simp at hi
  | e :: l, b, h, 0, _ => ⟨h.2.1, fun h0 => by omega⟩
  | e :: l, b, h, i + 1, hi => by
    have hi' : i < l.length := by simpa using hi
    have := row_rise_to l _ h.2.2 i hi'
    refine ⟨this.1, fun _ => ?_⟩
    cases i with
    | zero =>
      show After e (eat l 0)
      have hm := (h.2.2.mem (eat l 0) (by rw [eat_eq hi']; exact List.getElem_mem _)).2
      have := (entT e).1 h.2.1
      exact ⟨by omega, hm⟩
    | succ i => exact this.2 (by omega)
/-- Check's answer -/
theorem row_rise (l : List Ent) : RowOk true l ↔ Rise 0 l := by
  constructor
  · intro h
    refine row_rise_from l 0 h fun hl => ?_
    exact ((entT _).1 (h 0 hl).1).2.1
  · intro h; exact row_rise_to l 0 h

/-! ### what a row says of a place -/
def inE (e : Ent) (p : Int) : Prop := e.log ≤ p ∧ p < e.log + e.len
instance (e : Ent) (p : Int) : Decidable (inE e p) := by unfold inE; infer_instance
def findE (l : List Ent) (p : Int) : Option Ent := l.find? fun e => decide (inE e p)
def mapX (l : List Ent) (p : Int) : Option Int := (findE l p).map fun e => e.phys + p - e.log
theorem mapX_nil (p : Int) : mapX [] p = none := rfl
theorem mapX_cons (e : Ent) (l : List Ent) (p : Int) : mapX (e :: l) p = if inE e p then some (e.phys + p - e.log) else mapX l p := by
  unfold mapX findE
  rw [List.find?_cons]
  by_cases h : inE e p
  · rw [if_pos h, decide_eq_true h]; rfl
  · rw [if_neg h, decide_eq_false h]
theorem mapX_low {b : Int} {l : List Ent} (h : Rise b l) {p : Int} (hp : p < b) : mapX l p = none := by
  induction l generalizing b with
  | nil => rfl
  | cons e l ih =>
    have := (entT e).1 h.2.1
    have h1 := h.1
    rw [mapX_cons, if_neg (by unfold inE; omega)]
    exact ih h.2.2 (by omega)
theorem mapX_high {l : List Ent} {c p : Int} (h : ∀ e ∈ l, e.log + e.len ≤ c) (hp : c ≤ p) : mapX l p = none := by
  induction l with
  | nil => rfl
  | cons e l ih =>
    have := h e (by simp)
    rw [mapX_cons, if_neg (by unfold inE; omega)]
    exact ih fun x hx => h x (by simp [hx])
theorem mapX_append (l m : List Ent) (p : Int) : mapX (l ++ m) p = (mapX l p).or (mapX m p) := by
  induction l with
  | nil => rfl
  | cons e l ih =>
    rw [List.cons_append, mapX_cons, mapX_cons]
    by_cases h : inE e p
    · rw [if_pos h, if_pos h]; rfl
    · rw [if_neg h, if_neg h, ih]
/-- in a row in order each extent says what it says -/
theorem mapX_mem {b : Int} {l : List Ent} (h : Rise b l) {e : Ent} (he : e ∈ l) {p : Int} (hp : inE e p) : mapX l p = some (e.phys + p - e.log) := by
  induction l generalizing b with
  | nil => simp at he
  | cons x l ih =>
    rw [mapX_cons]
    rcases List.mem_cons.1 he with rfl | he
    · rw [if_pos hp]
    · have := (h.2.2.mem e he).2
      rw [if_neg (by unfold inE at *; omega)]
      exact ih h.2.2 he

/-! ### blocks -/
def phR (e : Ent) : Int × Int := (e.phys, e.len)
def physR (l : List Ent) : List (Int × Int) := l.map phR
theorem phR_in {e : Ent} (h : EntOk true e) (i : Int) : inR (phR e) i ↔ e.phys ≤ i ∧ i < e.phys + e.len := by
  have := (entT e).1 h
  unfold inR okR phR
  constructor
  · rintro ⟨_, h1, h2⟩; exact ⟨h1, h2⟩
  · rintro ⟨h1, h2⟩; exact ⟨by omega, h1, h2⟩
theorem elem_map {b : Int} {l : List Ent} (h : Rise b l) (i : Int) : elemR (physR l) i ↔ ∃ p, mapX l p = some i := by
  constructor
  · rintro ⟨r, hr, hi⟩
    unfold physR at hr
    rw [List.mem_map] at hr
    obtain ⟨e, he, rfl⟩ := hr
    rw [phR_in (h.mem e he).1] at hi
    refine ⟨e.log + (i - e.phys), ?_⟩
    rw [mapX_mem h he (by unfold inE; omega)]
    congr 1; omega
  · rintro ⟨p, hp⟩
    unfold mapX at hp
    rw [Option.map_eq_some_iff] at hp
    obtain ⟨e, he, rfl⟩ := hp
    have hm := List.mem_of_find?_eq_some he
    have hin := List.find?_some he
    rw [decide_eq_true_eq] at hin
    refine ⟨phR e, List.mem_map_of_mem (f := phR) hm, ?_⟩
    rw [phR_in (h.mem e hm).1]
    unfold inE at hin
    omega
def blocksX (l : List Ent) : List (Int × Int) := normR (physR l)
def endX (l : List Ent) : Int := match l.getLast? with
  | none => 0
  | some e => e.log + e.len
def countX : List Ent → Int
  | [] => 0
  | e :: l => e.len + countX l
theorem endX_snoc (l : List Ent) (e : Ent) : endX (l ++ [e]) = e.log + e.len := by unfold endX; rw [List.getLast?_append]; rfl
theorem countX_append (l m : List Ent) : countX (l ++ m) = countX l + countX m := by
  induction l with
  | nil => simp [countX]
  | cons e l ih => simp [countX, ih]; omega

/-! ### what is left of a row -/
def part (x : Ent) (a b : Int) : Option Ent := if max a x.log < min b (x.log + x.len) then some ⟨max a x.log, x.phys + max a x.log - x.log, min b (x.log + x.len) - max a x.log⟩ else none
def keep (l : List Ent) (a b : Int) : List Ent := l.filterMap fun x => part x a b
theorem keep_nil (a b : Int) : keep [] a b = [] := rfl
theorem keep_cons (x : Ent) (l : List Ent) (a b : Int) : keep (x :: l) a b = (part x a b).toList ++ keep l a b := by
  unfold keep
  rw [List.filterMap_cons]
  cases part x a b <;> rfl
theorem keep_append (l m : List Ent) (a b : Int) : keep (l ++ m) a b = keep l a b ++ keep m a b := by unfold keep; rw [List.filterMap_append]
theorem part_some {x y : Ent} {a b : Int} (h : part x a b = some y) : y.log = max a x.log ∧ y.phys = x.phys + max a x.log - x.log ∧ y.len = min b (x.log + x.len) - max a x.log ∧ max a x.log < min b (x.log + x.len) := by
  unfold part at h
  by_cases hc : max a x.log < min b (x.log + x.len)
  · rw [if_pos hc] at h
    have := Option.some.inj h
    subst this
    exact ⟨rfl, rfl, rfl, hc⟩
  · rw [if_neg hc] at h; cases h
theorem part_none {x : Ent} {a b : Int} (h : part x a b = none) : min b (x.log + x.len) ≤ max a x.log := by
  unfold part at h
  by_cases hc : max a x.log < min b (x.log + x.len)
  · rw [if_pos hc] at h; cases h
  · omega
theorem part_ok {x y : Ent} {a b : Int} (hx : EntOk true x) (h : part x a b = some y) : EntOk true y ∧ x.log ≤ y.log ∧ a ≤ y.log ∧ y.log + y.len ≤ b ∧ y.log + y.len ≤ x.log + x.len := by
  obtain ⟨h1, h2, h3, h4⟩ := part_some h
  have hk := (entT x).1 hx
  rw [entT]
  omega
theorem part_whole {x : Ent} {a b : Int} (hx : EntOk true x) (h1 : a ≤ x.log) (h2 : x.log + x.len ≤ b) : part x a b = some x := by
  have hk := (entT x).1 hx
  unfold part
  rw [if_pos (by omega)]
  congr 1
  exact Ent.ext' (by show max a x.log = _; omega) (by show x.phys + max a x.log - x.log = _; omega) (by show min b (x.log + x.len) - max a x.log = _; omega)
theorem part_out {x : Ent} {a b : Int} (h : x.log + x.len ≤ a ∨ b ≤ x.log) : part x a b = none := by
  unfold part; rw [if_neg (by omega)]
theorem part_part {x y : Ent} {a b : Int} (c d : Int) (h : part x a b = some y) : part y c d = part x (max a c) (min b d) := by
  obtain ⟨h1, h2, h3, h4⟩ := part_some h
  unfold part
  rw [h1, h2, h3]
  by_cases k : max (max a c) x.log < min (min b d) (x.log + x.len)
  · rw [if_pos (by omega), if_pos k]
    congr 1
    exact Ent.ext' (by show max c (max a x.log) = max (max a c) x.log; omega) (by show x.phys + max a x.log - x.log + max c (max a x.log) - max a x.log = x.phys + max (max a c) x.log - x.log; omega)
      (by show min d (max a x.log + (min b (x.log + x.len) - max a x.log)) - max c (max a x.log) = min (min b d) (x.log + x.len) - max (max a c) x.log; omega)
  · rw [if_neg (by omega), if_neg k]
theorem part_gone {x : Ent} {a b : Int} (c d : Int) (h : part x a b = none) : part x (max a c) (min b d) = none := by
  have := part_none h
  unfold part; rw [if_neg (by omega)]
theorem keep_keep (l : List Ent) (a b c d : Int) : keep (keep l a b) c d = keep l (max a c) (min b d) := by
  induction l with
  | nil => rfl
  | cons x l ih =>
    rw [keep_cons, keep_append, ih, keep_cons]
    congr 1
    cases h : part x a b with
    | none => rw [part_gone c d h]; rfl
    | some y => rw [← part_part c d h]; show keep [y] c d = _; rw [keep_cons, keep_nil, List.append_nil]
theorem keep_rise {b : Int} {l : List Ent} (h : Rise b l) (c d : Int) : Rise (max b c) (keep l c d) ∧ ∀ e ∈ keep l c d, e.log + e.len ≤ d := by
  induction l generalizing b with
  | nil => exact ⟨trivial, fun e he => by rw [keep_nil] at he; simp at he⟩
  | cons x l ih =>
    obtain ⟨h1, h2⟩ := ih h.2.2
    have hx := (entT x).1 h.2.1
    have hb := h.1
    rw [keep_cons]
    cases hp : part x c d with
    | none =>
      refine ⟨h1.down (by omega), fun e he => h2 e ?_⟩
      simpa using he
    | some y =>
      obtain ⟨k1, k2, k3, k4, k5⟩ := part_ok h.2.1 hp
      refine ⟨⟨by omega, k1, h1.down (by omega)⟩, fun e he => ?_⟩
      rcases List.mem_cons.1 he with rfl | he
      · exact k4
      · exact h2 e he
theorem keep_all {b : Int} {l : List Ent} (h : Rise b l) {c d : Int} (hc : c ≤ b) (hd : ∀ e ∈ l, e.log + e.len ≤ d) : keep l c d = l := by
  induction l generalizing b with
  | nil => rfl
  | cons x l ih =>
    rw [keep_cons, part_whole h.2.1 (by have := h.1; omega) (hd x (by simp)), ih (h.2.2) (by have := (entT x).1 h.2.1; have := h.1; omega) (fun e he => hd e (by simp [he]))]; rfl
theorem keep_none {l : List Ent} {c d : Int} (h : ∀ e ∈ l, e.log + e.len ≤ c ∨ d ≤ e.log) : keep l c d = [] := by
  induction l with
  | nil => rfl
  | cons x l ih => rw [keep_cons, part_out (h x (by simp)), ih (fun e he => h e (by simp [he]))]; rfl
theorem keep_empty (l : List Ent) {c d : Int} (h : d ≤ c) : keep l c d = [] := by
  induction l with
  | nil => rfl
  | cons x l ih =>
    rw [keep_cons, ih]
    unfold part
    rw [if_neg (by omega)]; rfl
/-- what is left says what was said -/
theorem mapX_keep {b : Int} {l : List Ent} (h : Rise b l) (c d p : Int) : mapX (keep l c d) p = if c ≤ p ∧ p < d then mapX l p else none := by
  induction l generalizing b with
  | nil => rw [keep_nil, mapX_nil]; split <;> rfl
  | cons x l ih =>
    rw [keep_cons]
    have hx := (entT x).1 h.2.1
    have ih := ih h.2.2
    cases hp : part x c d with
    | none =>
      have hn := part_none hp
      show mapX (keep l c d) p = _
      rw [ih]
      by_cases hc : c ≤ p ∧ p < d
      · rw [if_pos hc, if_pos hc, mapX_cons, if_neg (by unfold inE; omega)]
      · rw [if_neg hc, if_neg hc]
    | some y =>
      obtain ⟨h1, h2, h3, h4⟩ := part_some hp
      show mapX (y :: keep l c d) p = _
      rw [mapX_cons, ih]
      by_cases hc : c ≤ p ∧ p < d
      · rw [if_pos hc, if_pos hc, mapX_cons]
        by_cases hi : inE x p
        · rw [if_pos hi, if_pos (by unfold inE at *; omega), h1, h2]; congr 1; omega
        · rw [if_neg hi, if_neg (by unfold inE at *; omega)]
      · rw [if_neg hc, if_neg hc, if_neg (by unfold inE; omega)]

/-! ### Put, Punch, Cut -/
/-- a row without the places from a on, up to b, with another row among it -/
def change (l : List Ent) (a b : Int) (m : List Ent) : List Ent := keep l 0 a ++ (m ++ keep l b 2048)
def freedX (l out : List Ent) : List (Int × Int) := minusR (physR l) (physR out)
theorem change_rise {l : List Ent} (h : Rise 0 l) {a b : Int} (h0 : 0 ≤ a) (hab : a ≤ b) {m : List Ent} (hm : Rise a m) (hmb : ∀ e ∈ m, e.log + e.len ≤ b) : Rise 0 (change l a b m) := by
  unfold change
  have k1 := keep_rise h 0 a
  have k2 := keep_rise h b 2048
  refine rise_append.2 ⟨k1.1.down (by omega), a, k1.2, h0, rise_append.2 ⟨hm, b, hmb, hab, k2.1.down (by omega)⟩⟩
theorem change_map {l : List Ent} (h : Rise 0 l) {a b : Int} (h0 : 0 ≤ a) (hab : a ≤ b) {m : List Ent} (hm : Rise a m) (hmb : ∀ e ∈ m, e.log + e.len ≤ b) (p : Int) :
    mapX (change l a b m) p = if a ≤ p ∧ p < b then mapX m p else mapX l p := by
  unfold change
  rw [mapX_append, mapX_append, mapX_keep h, mapX_keep h]
  by_cases h1 : a ≤ p ∧ p < b
  · rw [if_pos h1, if_neg (by omega), if_neg (by omega)]
    cases mapX m p <;> rfl
  · rw [if_neg h1]
    by_cases h2 : p < a
    · rw [if_neg (show ¬ (b ≤ p ∧ p < 2048) by omega), mapX_low hm h2]
      by_cases h3 : 0 ≤ p
      · rw [if_pos ⟨h3, h2⟩]; cases mapX l p <;> rfl
      · rw [if_neg (by omega), mapX_low h (by omega)]; rfl
    · rw [if_neg (by omega), mapX_high hmb (by omega)]
      by_cases h3 : p < 2048
      · rw [if_pos (by omega)]; rfl
      · rw [if_neg (by omega), mapX_high (c := 2048) (fun e he => by have := (entT e).1 (h.mem e he).1; omega) (by omega)]; rfl
/-- the parts on both sides, and nothing between them -/
theorem change_split {A B : List Ent} {a b : Int} (hA : Rise 0 A) (hAa : ∀ e ∈ A, e.log + e.len ≤ a) (hB : Rise b B) (hab : a ≤ b) (mid m : List Ent) (hmid : ∀ e ∈ mid, EntOk true e ∧ a ≤ e.log ∧ e.log + e.len ≤ b) :
    change (A ++ (mid ++ B)) a b m = A ++ (m ++ B) := by
  unfold change
  have kA : keep A 0 a = A := keep_all hA (Int.le_refl _) hAa
  have kA2 : keep A b 2048 = [] := keep_none fun e he => .inl (by have := hAa e he; omega)
  have kM : keep mid 0 a = [] := keep_none fun e he => .inr (hmid e he).2.1
  have kM2 : keep mid b 2048 = [] := keep_none fun e he => .inl (hmid e he).2.2
  have kB : keep B 0 a = [] := keep_none fun e he => .inr (by have := (hB.mem e he).2; omega)
  have kB2 : keep B b 2048 = B := keep_all hB (Int.le_refl _) fun e he => by have := (entT e).1 (hB.mem e he).1; omega
  simp only [keep_append, kA, kA2, kM, kM2, kB, kB2, List.append_nil, List.nil_append]
def putX (l : List Ent) (x : Ent) : List Ent := change l x.log (x.log + x.len) [x]
theorem one_rise {x : Ent} (hx : EntOk true x) : Rise x.log [x] ∧ ∀ e ∈ [x], e.log + e.len ≤ x.log + x.len := ⟨⟨Int.le_refl _, hx, trivial⟩, fun e he => by simp at he; subst he; exact Int.le_refl _⟩
theorem put_rise {l : List Ent} (h : Rise 0 l) {x : Ent} (hx : EntOk true x) : Rise 0 (putX l x) := by
  have := (entT x).1 hx
  exact change_rise h (by omega) (by omega) (one_rise hx).1 (one_rise hx).2
theorem put_map {l : List Ent} (h : Rise 0 l) {x : Ent} (hx : EntOk true x) (p : Int) : mapX (putX l x) p = if inE x p then some (x.phys + p - x.log) else mapX l p := by
  have := (entT x).1 hx
  unfold putX
  rw [change_map h (by omega) (by omega) (one_rise hx).1 (one_rise hx).2, mapX_cons]
  by_cases k : inE x p
  · rw [if_pos k, if_pos k]; unfold inE at k; rw [if_pos k]
  · rw [if_neg (show ¬ (x.log ≤ p ∧ p < x.log + x.len) from k), if_neg k]
theorem punch_rise {l : List Ent} (h : Rise 0 l) {a b : Int} (h0 : 0 ≤ a) (hab : a ≤ b) : Rise 0 (change l a b []) := change_rise (m := []) h h0 hab trivial (fun e he => by simp at he)
theorem punch_map {l : List Ent} (h : Rise 0 l) {a b : Int} (h0 : 0 ≤ a) (hab : a ≤ b) (p : Int) : mapX (change l a b []) p = if a ≤ p ∧ p < b then none else mapX l p := by
  rw [change_map (m := []) h h0 hab trivial (fun e he => by simp at he)]; rfl

/-! ### what is freed -/
theorem freed_elem (l out : List Ent) (i : Int) : elemR (freedX l out) i ↔ elemR (physR l) i ∧ ¬ elemR (physR out) i := minus_elem _ _ i
theorem freed_is (l out : List Ent) : minusR (blocksX l) (blocksX out) = freedX l out := by
  refine minus_is (minus_norm _ _) fun i => ?_
  rw [minus_elem]; unfold blocksX; rw [norm_elem, norm_elem]
/-- behind a Put -/
theorem put_union {l : List Ent} (h : Rise 0 l) {x : Ent} (hx : EntOk true x) : unionR (blocksX (putX l x)) (freedX l (putX l x)) = unionR (blocksX l) [(x.phys, x.len)] := by
  refine union_is (norm_norm _) fun i => ?_
  show elemR (unionR _ _) i ↔ _
  rw [union_elem, freed_elem]
  unfold blocksX
  rw [norm_elem, norm_elem, elem_map (put_rise h hx), elem_map h]
  have e1 : elemR [(x.phys, x.len)] i ↔ x.phys ≤ i ∧ i < x.phys + x.len := by
    rw [elemR_cons]
    rw [show (x.phys, x.len) = phR x from rfl, phR_in hx]
    exact ⟨fun q => q.elim id fun q => absurd q (elemR_nil i), .inl⟩
  rw [e1]
  constructor
  · rintro (⟨p, hp⟩ | ⟨hp, -⟩)
    · rw [put_map h hx] at hp
      by_cases k : inE x p
      · rw [if_pos k] at hp; have := Option.some.inj hp; unfold inE at k; exact .inr (by omega)
      · rw [if_neg k] at hp; exact .inl ⟨p, hp⟩
    · exact .inl hp
  · rintro (hp | hp)
    · by_cases k : ∃ p, mapX (putX l x) p = some i
      · exact .inl k
      · exact .inr ⟨hp, k⟩
    · refine .inl ⟨x.log + (i - x.phys), ?_⟩
      rw [put_map h hx, if_pos (by unfold inE; omega)]
      congr 1; omega
theorem meet_freed (l out : List Ent) : meetR (blocksX out) (freedX l out) = [] := by
  have hn : Norm (-1) (meetR (blocksX out) (freedX l out)) := minus_norm _ _
  refine norm_one hn (Norm.nil (-1)) fun i => ?_
  rw [meet_elem, freed_elem]
  unfold blocksX
  rw [norm_elem]
  exact ⟨fun q => absurd q.1 q.2.2, fun q => absurd q (elemR_nil i)⟩
/-- behind whatever says less -/
theorem less_union {l out : List Ent} (h : Rise 0 l) (ho : Rise 0 out) (hs : ∀ p i, mapX out p = some i → mapX l p = some i) : unionR (blocksX out) (freedX l out) = blocksX l := by
  refine norm_is (norm_norm _) fun i => ?_
  show elemR (unionR _ _) i ↔ _
  rw [union_elem, freed_elem]
  unfold blocksX
  rw [norm_elem, elem_map ho, elem_map h]
  constructor
  · rintro (⟨p, hp⟩ | ⟨hp, -⟩)
    · exact ⟨p, hs p i hp⟩
    · exact hp
  · intro hp
    by_cases k : ∃ p, mapX out p = some i
    · exact .inl k
    · exact .inr ⟨hp, k⟩

/-! ### pieces -/
theorem put_change {l : List Ent} (h : Rise 0 l) {x : Ent} (hx : EntOk true x) : change (putX l x) x.log (x.log + x.len) [] = change l x.log (x.log + x.len) [] := by
  have hk := (entT x).1 hx
  have k1 := keep_rise h 0 x.log
  have k2 := keep_rise h (x.log + x.len) 2048
  unfold putX
  show change (keep l 0 x.log ++ ([x] ++ keep l (x.log + x.len) 2048)) x.log (x.log + x.len) [] = keep l 0 x.log ++ ([] ++ keep l (x.log + x.len) 2048)
  exact change_split (k1.1.down (by omega)) k1.2 (k2.1.down (by omega)) (by omega) [x] [] fun e he => by simp at he; subst he; exact ⟨hx, Int.le_refl _, Int.le_refl _⟩
/-- an extent, cut in two -/
def fore (x : Ent) (c : Int) : Ent := ⟨x.log, x.phys, c⟩
def hind (x : Ent) (c : Int) : Ent := ⟨x.log + c, x.phys + c, x.len - c⟩
theorem fore_ok {x : Ent} (hx : EntOk true x) {c : Int} (h1 : 1 ≤ c) (h2 : c < x.len) : EntOk true (fore x c) ∧ EntOk true (hind x c) := by
  have := (entT x).1 hx
  rw [entT, entT]; unfold fore hind; simp only; omega
theorem pieces_fore {l : List Ent} (h : Rise 0 l) {x : Ent} (hx : EntOk true x) {c : Int} (h1 : 1 ≤ c) (h2 : c < x.len) :
    putX (putX l (fore x c)) (hind x c) = keep l 0 x.log ++ ([fore x c, hind x c] ++ keep l (x.log + x.len) 2048) := by
  have hk := (entT x).1 hx
  obtain ⟨o1, o2⟩ := fore_ok hx h1 h2
  have k1 := keep_rise h 0 x.log
  have e1 : (hind x c).log + (hind x c).len = x.log + x.len := by show x.log + c + (x.len - c) = _; omega
  unfold putX
  rw [e1]
  show change (change l x.log (x.log + c) [fore x c]) (x.log + c) (x.log + x.len) [hind x c] = _
  unfold change
  rw [keep_append, keep_append, keep_append, keep_append, keep_keep, keep_keep, keep_keep, keep_keep]
  have f1 : keep l (max 0 0) (min x.log (x.log + c)) = keep l 0 x.log := by rw [show max (0 : Int) 0 = 0 by omega, show min x.log (x.log + c) = x.log by omega]
  have f2 : keep [fore x c] 0 (x.log + c) = [fore x c] := keep_all (one_rise o1).1 (by show 0 ≤ x.log; omega) (fun e he => by simp at he; subst he; exact Int.le_refl _)
  have f3 : keep l (max (x.log + c) 0) (min 2048 (x.log + c)) = [] := keep_empty l (by omega)
  have f4 : keep l (max 0 (x.log + x.len)) (min x.log 2048) = [] := keep_empty l (by omega)
  have f5 : keep [fore x c] (x.log + x.len) 2048 = [] := keep_none fun e he => by simp at he; subst he; left; show x.log + c ≤ _; omega
  have f6 : keep l (max (x.log + c) (x.log + x.len)) (min 2048 2048) = keep l (x.log + x.len) 2048 := by rw [show max (x.log + c) (x.log + x.len) = x.log + x.len by omega, show min (2048 : Int) 2048 = 2048 by omega]
  rw [f1, f2, f3, f4, f5, f6]; simp
theorem pieces_hind {l : List Ent} (h : Rise 0 l) {x : Ent} (hx : EntOk true x) {c : Int} (h1 : 1 ≤ c) (h2 : c < x.len) :
    putX (putX l (hind x c)) (fore x c) = keep l 0 x.log ++ ([fore x c, hind x c] ++ keep l (x.log + x.len) 2048) := by
  have hk := (entT x).1 hx
  obtain ⟨o1, o2⟩ := fore_ok hx h1 h2
  have e1 : (hind x c).log + (hind x c).len = x.log + x.len := by show x.log + c + (x.len - c) = _; omega
  unfold putX
  rw [e1]
  show change (change l (x.log + c) (x.log + x.len) [hind x c]) x.log (x.log + c) [fore x c] = _
  unfold change
  rw [keep_append, keep_append, keep_append, keep_append, keep_keep, keep_keep, keep_keep, keep_keep]
  have f1 : keep l (max 0 0) (min (x.log + c) x.log) = keep l 0 x.log := by rw [show max (0 : Int) 0 = 0 by omega, show min (x.log + c) x.log = x.log by omega]
  have f2 : keep [hind x c] 0 x.log = [] := keep_none fun e he => by simp at he; subst he; right; show x.log ≤ x.log + c; omega
  have f3 : keep l (max (x.log + x.len) 0) (min 2048 x.log) = [] := keep_empty l (by omega)
  have f4 : keep l (max 0 (x.log + c)) (min (x.log + c) 2048) = [] := keep_empty l (by omega)
  have f5 : keep [hind x c] (x.log + c) 2048 = [hind x c] := keep_all (one_rise o2).1 (Int.le_refl _) (fun e he => by simp at he; subst he; rw [e1]; omega)
  have f6 : keep l (max (x.log + x.len) (x.log + c)) (min 2048 2048) = keep l (x.log + x.len) 2048 := by rw [show max (x.log + x.len) (x.log + c) = x.log + x.len by omega, show min (2048 : Int) 2048 = 2048 by omega]
  rw [f1, f2, f3, f4, f5, f6]; simp
/-- neighbours that go on from one another, taken as one -/
def joinStep (out : List Ent) (e : Ent) : List Ent := match out.getLast? with
  | none => [e]
  | some q => if q.log + q.len = e.log ∧ q.phys + q.len = e.phys then out.dropLast ++ [⟨q.log, q.phys, q.len + e.len⟩] else out ++ [e]
def joinX (l : List Ent) : List Ent := l.foldl joinStep []
theorem joinStep_snoc (out : List Ent) (q e : Ent) : joinStep (out ++ [q]) e = if q.log + q.len = e.log ∧ q.phys + q.len = e.phys then out ++ [⟨q.log, q.phys, q.len + e.len⟩] else out ++ [q] ++ [e] := by
  unfold joinStep
  rw [List.getLast?_append]
  simp
theorem ent_snoc_cases (l : List Ent) : l = [] ∨ ∃ m q, l = m ++ [q] := by
  rcases List.eq_nil_or_concat l with h | ⟨m, q, h⟩
  · exact .inl h
  · exact .inr ⟨m, q, by simpa using h⟩
theorem joinStep_two (out : List Ent) (x : Ent) (c : Int) : joinStep (joinStep out (fore x c)) (hind x c) = joinStep out x := by
  have hw : c + (x.len - c) = x.len := by omega
  rcases ent_snoc_cases out with rfl | ⟨m, q, rfl⟩
  · show joinStep ([] ++ [fore x c]) (hind x c) = [x]
    rw [joinStep_snoc, if_pos ⟨rfl, rfl⟩]
    show [] ++ [(⟨x.log, x.phys, c + (x.len - c)⟩ : Ent)] = [x]
    rw [hw]; rfl
  · rw [joinStep_snoc, joinStep_snoc]
    by_cases k : q.log + q.len = x.log ∧ q.phys + q.len = x.phys
    · rw [if_pos k, if_pos (show q.log + q.len = (fore x c).log ∧ q.phys + q.len = (fore x c).phys from k), joinStep_snoc, if_pos]
      · congr 2
        exact Ent.ext' rfl rfl (by show q.len + c + (x.len - c) = q.len + x.len; omega)
      · exact ⟨by show q.log + (q.len + c) = x.log + c; omega, by show q.phys + (q.len + c) = x.phys + c; omega⟩
    · rw [if_neg k, if_neg (show ¬ (q.log + q.len = (fore x c).log ∧ q.phys + q.len = (fore x c).phys) from k), joinStep_snoc, if_pos ⟨rfl, rfl⟩]
      congr 2
      exact Ent.ext' rfl rfl hw
theorem pieces_join (A B : List Ent) (x : Ent) (c : Int) : joinX (A ++ ([fore x c, hind x c] ++ B)) = joinX (A ++ ([x] ++ B)) := by
  unfold joinX
  rw [List.foldl_append, List.foldl_append, List.foldl_append, List.foldl_append]
  show List.foldl joinStep (joinStep (joinStep (List.foldl joinStep [] A) (fore x c)) (hind x c)) B = List.foldl joinStep (joinStep (List.foldl joinStep [] A) x) B
  rw [joinStep_two]
/-! ### ends -/
theorem rise_end {b : Int} {l : List Ent} (h : Rise b l) : ∀ e ∈ l, e.log + e.len ≤ endX l := by
  rcases ent_snoc_cases l with rfl | ⟨m, q, rfl⟩
  · intro e he; simp at he
  · intro e he
    rw [endX_snoc]
    obtain ⟨h1, c, h2, h3, h4⟩ := rise_append.1 h
    have hq := (entT q).1 h4.2.1
    rcases List.mem_append.1 he with he | he
    · have := h2 e he; have := h4.1; omega
    · simp at he; subst he; exact Int.le_refl _
theorem endX_le {l : List Ent} {c : Int} (h : ∀ e ∈ l, e.log + e.len ≤ c) (hc : 0 ≤ c) : endX l ≤ c := by
  rcases ent_snoc_cases l with rfl | ⟨m, q, rfl⟩
  · exact hc
  · rw [endX_snoc]; exact h q (by simp)
theorem endX_pos {b : Int} {l : List Ent} (h : Rise b l) : 0 ≤ endX l ∧ endX l ≤ 2048 := by
  rcases ent_snoc_cases l with rfl | ⟨m, q, rfl⟩
  · exact ⟨by decide, by decide⟩
  · rw [endX_snoc]
    have := (entT q).1 (h.mem q (by simp)).1
    omega
theorem keep_ends {b : Int} {l : List Ent} (h : Rise b l) (c d : Int) : ∀ e ∈ keep l c d, e.log + e.len ≤ endX l := by
  intro e he
  unfold keep at he
  rw [List.mem_filterMap] at he
  obtain ⟨x, hx, hp⟩ := he
  have h1 := part_ok (h.mem x hx).1 hp
  have h2 := rise_end h x hx
  omega
theorem endX_keep {b : Int} {l : List Ent} (h : Rise b l) {c : Int} (hc : c < endX l) (h0 : 0 ≤ c) : endX (keep l c 2048) = endX l ∧ keep l c 2048 ≠ [] := by
  rcases ent_snoc_cases l with rfl | ⟨m, q, rfl⟩
  · exfalso; have : endX [] = 0 := rfl; omega
  · rw [endX_snoc] at hc ⊢
    have hq := (entT q).1 (h.mem q (by simp)).1
    have e : part q c 2048 = some ⟨max c q.log, q.phys + max c q.log - q.log, q.log + q.len - max c q.log⟩ := by
      unfold part
      rw [if_pos (by omega)]
      congr 1
      exact Ent.ext' rfl rfl (by show min 2048 (q.log + q.len) - max c q.log = q.log + q.len - max c q.log; omega)
    have e2 : keep [q] c 2048 = [⟨max c q.log, q.phys + max c q.log - q.log, q.log + q.len - max c q.log⟩] := by rw [keep_cons, e, keep_nil]; rfl
    rw [keep_append, e2, endX_snoc]
    exact ⟨by show max c q.log + (q.log + q.len - max c q.log) = _; omega, by simp⟩
theorem keep_behind {b : Int} {l : List Ent} (h : Rise b l) {c : Int} (hc : endX l ≤ c) (d : Int) : keep l c d = [] := keep_none fun e he => .inl (by have := rise_end h e he; omega)
theorem endX_append {l m : List Ent} (hm : m ≠ []) : endX (l ++ m) = endX m := by
  rcases ent_snoc_cases m with rfl | ⟨n, q, rfl⟩
  · exact absurd rfl hm
  · rw [← List.append_assoc, endX_snoc, endX_snoc]
theorem put_end {l : List Ent} (h : Rise 0 l) {x : Ent} (hx : EntOk true x) : endX (putX l x) = max (endX l) (x.log + x.len) := by
  have hk := (entT x).1 hx
  unfold putX change
  by_cases c : x.log + x.len < endX l
  · obtain ⟨h1, h2⟩ := endX_keep h c (by omega)
    rw [endX_append (by simp), endX_append h2, h1]; omega
  · rw [keep_behind h (c := x.log + x.len) (by omega) 2048, List.append_nil, endX_snoc]; omega
theorem cut_end {l : List Ent} (h : Rise 0 l) {f : Int} (h0 : 0 ≤ f) : endX (change l f 2048 []) ≤ min (endX l) f := by
  unfold change
  rw [keep_empty l (c := 2048) (d := 2048) (by omega)]
  simp only [List.append_nil]
  have h1 := endX_le (keep_rise h 0 f).2 h0
  have h2 := endX_le (keep_ends h 0 f) (endX_pos h).1
  omega

/-! ### ext by ext -/
theorem rise_lt {b : Int} {l : List Ent} (h : Rise b l) : ∀ {i j : Nat}, i < j → j < l.length → (eat l i).log + (eat l i).len ≤ (eat l j).log := by
  induction l generalizing b with
  | nil => intro i j _ hj; simp at hj
  | cons e l ih =>
    intro i j hij hj
    cases j with
    | zero => omega
    | succ j =>
      have hj' : j < l.length := by simpa using hj
      cases i with
      | zero =>
        have := (h.2.2.mem (eat l j) (by rw [eat_eq hj']; exact List.getElem_mem _)).2
        exact this
      | succ i => exact ih h.2.2 (by omega) hj'
theorem rise_take {b : Int} {l : List Ent} (h : Rise b l) (k : Nat) : Rise b (l.take k) := by
  have := rise_append.1 (show Rise b (l.take k ++ l.drop k) by rw [List.take_append_drop]; exact h)
  exact this.1
theorem rise_drop {b : Int} {l : List Ent} (h : Rise b l) {k : Nat} (hk : k < l.length) : Rise (eat l k).log (l.drop k) := by
  obtain ⟨-, c, -, -, h4⟩ := rise_append.1 (show Rise b (l.take k ++ l.drop k) by rw [List.take_append_drop]; exact h)
  rw [List.drop_eq_getElem_cons hk] at h4 ⊢
  rw [eat_eq hk]
  exact ⟨Int.le_refl _, h4.2.1, h4.2.2⟩
theorem take_ends {b : Int} {l : List Ent} (h : Rise b l) {k j : Nat} (hkj : k ≤ j) (hj : j < l.length) : ∀ e ∈ l.take k, e.log + e.len ≤ (eat l j).log := by
  intro e he
  obtain ⟨i, hi, rfl⟩ := List.getElem_of_mem he
  have hi' : i < k := by rw [List.length_take] at hi; omega
  have := rise_lt h (i := i) (j := j) (by omega) hj
  rw [eat_eq (show i < l.length by omega)] at this
  rw [List.getElem_take]; exact this
theorem put_between {A B : List Ent} {x : Ent} (hA : Rise 0 A) (hAx : ∀ e ∈ A, e.log + e.len ≤ x.log) (hx : EntOk true x) (hB : Rise (x.log + x.len) B) : putX (A ++ B) x = A ++ ([x] ++ B) := by
  have hk := (entT x).1 hx
  unfold putX
  exact change_split hA hAx hB (by omega) [] [x] (fun e he => by simp at he)
theorem put_again {A B : List Ent} {x : Ent} (hA : Rise 0 A) (hAx : ∀ e ∈ A, e.log + e.len ≤ x.log) (hx : EntOk true x) (hB : Rise (x.log + x.len) B) : putX (A ++ ([x] ++ B)) x = A ++ ([x] ++ B) := by
  have hk := (entT x).1 hx
  unfold putX
  exact change_split hA hAx hB (by omega) [x] [x] (fun e he => by simp at he; subst he; exact ⟨hx, Int.le_refl _, Int.le_refl _⟩)
theorem rise_at {b : Int} {l : List Ent} (h : Rise b l) {i : Nat} (hi : i < l.length) : EntOk true (eat l i) := (h.mem _ (by rw [eat_eq hi]; exact List.getElem_mem _)).1
theorem drop_from {b : Int} {l : List Ent} (h : Rise b l) {i k : Nat} (hik : i < k) (hi : i < l.length) : Rise ((eat l i).log + (eat l i).len) (l.drop k) := by
  by_cases hk : k < l.length
  · exact (rise_drop h hk).down (rise_lt h hik hk)
  · rw [List.drop_of_length_le (by omega)]; trivial
/-- what a row is put into, from its k-th extent on, behind i of them -/
def backX (l : List Ent) (k i : Nat) : List Ent := if i ≤ l.length - k then (l.drop k).take i else l.take (i - (l.length - k)) ++ l.drop k
theorem back_zero (l : List Ent) (k : Nat) : backX l k 0 = [] := by unfold backX; rw [if_pos (Nat.zero_le _)]; rfl
theorem back_step {l : List Ent} (h : Rise 0 l) {k i : Nat} (hk : k < l.length) (hi : i < l.length) : putX (backX l k i) (eat l ((i + k) % l.length)) = backX l k (i + 1) := by
  unfold backX
  by_cases c : i < l.length - k
  · have hm : (i + k) % l.length = k + i := by rw [Nat.mod_eq_of_lt (by omega)]; omega
    rw [if_pos (by omega), if_pos (by omega), hm]
    have hj : k + i < l.length := by omega
    have e : (l.drop k).take (i + 1) = (l.drop k).take i ++ ([eat l (k + i)] ++ []) := by
      rw [List.take_succ_eq_append_getElem (by rw [List.length_drop]; omega), List.getElem_drop, eat_eq hj]; simp
    have hA : Rise 0 ((l.drop k).take i) := rise_take ((rise_drop h hk).down (by have := (entT _).1 (rise_at h hk); omega)) i
    have hAx : ∀ x ∈ (l.drop k).take i, x.log + x.len ≤ (eat l (k + i)).log := by
      intro x hx
      obtain ⟨n, hn, rfl⟩ := List.getElem_of_mem hx
      have hn' : n < i := by rw [List.length_take] at hn; omega
      have := rise_lt h (i := k + n) (j := k + i) (by omega) hj
      rw [eat_eq (show k + n < l.length by omega)] at this
      rw [List.getElem_take, List.getElem_drop]; exact this
    rw [e, ← put_between hA hAx (rise_at h hj) (B := []) trivial, List.append_nil]
  · obtain ⟨j, hj⟩ : ∃ j, i = l.length - k + j := ⟨i - (l.length - k), by omega⟩
    have hjk : j < k := by omega
    have hm : (i + k) % l.length = j := by
      rw [show i + k = j + l.length by omega, Nat.add_mod_right, Nat.mod_eq_of_lt (by omega)]
    have e1 : (if i ≤ l.length - k then (l.drop k).take i else l.take (i - (l.length - k)) ++ l.drop k) = l.take j ++ l.drop k := by
      by_cases c2 : i ≤ l.length - k
      · rw [if_pos c2, show j = 0 by omega, List.take_zero, List.nil_append, List.take_of_length_le (by rw [List.length_drop]; omega)]
      · rw [if_neg c2, show i - (l.length - k) = j by omega]
    rw [e1, if_neg (by omega), show i + 1 - (l.length - k) = j + 1 by omega, hm]
    have hjl : j < l.length := by omega
    rw [put_between (rise_take h j) (take_ends h (Nat.le_refl _) hjl) (rise_at h hjl) (drop_from h hjk hjl)]
    rw [eat_eq hjl, List.take_succ_eq_append_getElem hjl, List.append_assoc]
theorem back_end (l : List Ent) {k : Nat} (hk : k < l.length) : backX l k l.length = l := by
  unfold backX
  by_cases c : k = 0
  · subst c; rw [if_pos (by omega)]; simp
  · rw [if_neg (by omega), show l.length - (l.length - k) = k by omega, List.take_append_drop]
theorem back_self {l : List Ent} (h : Rise 0 l) {i : Nat} (hi : i < l.length) : putX l (eat l i) = l := by
  have e : l = l.take i ++ ([eat l i] ++ l.drop (i + 1)) := by
    rw [eat_eq hi]
    have := List.drop_eq_getElem_cons hi
    show l = l.take i ++ (l[i] :: l.drop (i + 1))
    rw [← this, List.take_append_drop]
  have := put_again (rise_take h i) (take_ends h (Nat.le_refl _) hi) (rise_at h hi) (drop_from h (Nat.lt_succ_self i) hi)
  rw [← e] at this; exact this
theorem freed_self (l : List Ent) : freedX l l = [] := by
  refine norm_one (minus_norm _ _) (Norm.nil (-1)) fun i => ?_
  show elemR (freedX l l) i ↔ _
  rw [freed_elem]
  exact ⟨fun q => absurd q.1 q.2, fun q => absurd q (elemR_nil i)⟩
/-- the first extent that has a place -/
theorem find_at {b : Int} {l : List Ent} (h : Rise b l) {e : Ent} (he : e ∈ l) {p : Int} (hp : inE e p) : findE l p = some e := by
  induction l generalizing b with
  | nil => simp at he
  | cons x l ih =>
    unfold findE
    rw [List.find?_cons]
    rcases List.mem_cons.1 he with rfl | he
    · rw [decide_eq_true hp]
    · have := (h.2.2.mem e he).2
      rw [decide_eq_false (by unfold inE at *; omega)]
      exact ih h.2.2 he
end Go.Proofs.Ytgcbfiecgiijkaa
